/- The statement of CatalogTable: whatever comes in, the law answers true, and what came in reads as it did. (In one text with what it leans on: CTb, Laid8, LiftS, CatalogTable.) -/
import Derived.Maps.OwnIn
import Derived.Lib.LaidTab
import Derived.SizedLaws
import Derived.Shelf.Vars
import Derived.LaidMore
import Derived.SevenTiedAt
import Derived.WalkKit
import Derived.ProofKit
import Derived.OpenShut
import Derived.ShutString
import Derived.Lay
import Derived.Stop.Joined
import Derived.Test.YtheidjnapoipaaaGreatDoorCatalogTableAll1
import Derived.Test.YtheidjnapoipaaaGreatDoorCatalogTableAll2
import Derived.Test.YtheidjnapoipaaaGreatDoorFCheck
import Derived.Test.YtheidjnapoipaaaGreatDoorRows
import Derived.Test.YtheidjnapoipaaaGreatDoorCards
import Derived.Test.YtheidjnapoipaaaGreatDoorTie
namespace Go.Proofs.YtheidjnapoipaaaGreatDoor
open Go.RowKit
set_option linter.unusedVariables false
set_option linter.unusedSimpArgs false
attribute [local go_sem] Oper.semAt_some


/-- Whose blocks the range's body writes to: the count's box, the texts' box, and their row. -/
def SeenT (n s : Nat) (W : World) (k : Nat) : Prop := k = n ∨ k = s ∨ ∃ p len cap, W.cell? ⟨s, 0, none⟩ = some (.slice (some p) len cap) ∧ k = p.block
theorem seenT_low {n s B : Nat} (hn : n < B) (hs : s < B) : LowT (SeenT n s) B := by
  rintro W1 W2 h k (rfl | rfl | ⟨p, len, cap, hc, rfl⟩)
  · exact .inl rfl
  · exact .inr (.inl rfl)
  · exact .inr (.inr ⟨p, len, cap, (World.cell?_of_block (h s hs)).symm.trans hc, rfl⟩)
theorem own_belowC {B : Nat} {e : TypeId} {k : Nat} {v : Value} {n : Nat} {xs : List Value} {w w' : World} (h : w.ownsRow B e k v n xs) (hb : Below w.heap.size w w') : w'.ownsRow B e k v n xs :=
  h.kept (row := none) ⟨hb.os, hb.tape, hb.output, hb.size, fun j hj _ => hb.block j hj⟩ (by cases hv : v.ownBlock <;> simp)
theorem own_kindC {w : World} {B : Nat} {e : TypeId} {size : Nat} {v : Value} {n : Nat} {xs : List Value} (h : w.ownsRow B e size v n xs) : ∀ g, v.ownBlock = some g → ∃ c fz, w.heap[g]? = some (.cells c e fz) := by
  intro g hg
  rcases h.2 with ⟨rfl, _⟩ | ⟨g', cap, cur, rfl, _, hgg, _⟩
  · simp [Value.ownBlock] at hg
  · simp [Value.ownBlock] at hg
    subst hg
    exact ⟨cur, (0, 0), hgg⟩
theorem own_formC {w : World} {B : Nat} {e : TypeId} {size : Nat} {v : Value} {n : Nat} {xs : List Value} (h : w.ownsRow B e size v (n + 1) xs) : ∃ g cap, v = .slice (some ⟨g, 0, none⟩) (n + 1) cap := by
  rcases h.2 with ⟨_, h0⟩ | ⟨g', cap, cur, rfl, _⟩
  · exact absurd h0 (by simp)
  · exact ⟨g', cap, rfl⟩
/-- The texts seen: a row of one's own in a box. -/
def SeenI (s B : Nat) (l : List ByteArray) (W : World) : Prop := ∃ v, Row W s 25 [v] ∧ W.ownsRow B 9 1 v l.length (l.map Value.string)
theorem SeenI.below {s B : Nat} {l : List ByteArray} {W W' : World} (h : SeenI s B l W) (hb : Below W.heap.size W W') : SeenI s B l W' := by
  obtain ⟨v, h1, h2⟩ := h
  exact ⟨v, h1.below hb h1.lt, own_belowC h2 hb⟩
theorem seenI_own {s B : Nat} (hs : s < B) : OwnK B (fun o => o.isCells = false) (SeenI s B) := by
  rintro l X Y row ⟨v, h1, h2⟩ hg hr
  have hr' : ∀ r, row = some r → ∃ o : Obj, X.heap[r]? = some o ∧ o.isCells = false := fun r e => (hr r e).2
  refine ⟨v, row_grown h1 hg hr', h2.kept hg ?_⟩
  cases hv : v.ownBlock with
  | none => exact .inl rfl
  | some k =>
    refine .inr fun e => ?_
    obtain ⟨o, ho, hc⟩ := hr' k e.symm
    obtain ⟨c, fz, hk⟩ := own_kindC h2 k hv
    rw [hk] at ho
    cases ho
    cases hc
theorem RTab.below {B g : Nat} {W W' : World} (h : RTab B g W) (hb : Below W.heap.size W W') : RTab B g W' := by
  obtain ⟨vs, h1, h2, h3⟩ := h
  exact ⟨vs, h1, h2.below hb h2.lt, fun i hi => (h3 i hi).below hb⟩
theorem rtab_own {β : Type} {B b g : Nat} : OwnK B (fun o => o.isCells = false) (fun (_ : β) W => RTab b g W) := by
  rintro s X Y row ⟨vs, h1, h2, h3⟩ hg hr
  have hr' : ∀ r, row = some r → ∃ o : Obj, X.heap[r]? = some o ∧ o.isCells = false := fun r e => (hr r e).2
  exact ⟨vs, h1, row_grown h2 hg hr', fun i hi => strsB_grown (h3 i hi) hg hr'⟩
theorem seenT_ok {n s B : Nat} {l : List ByteArray} {W : World} (hn : n < W.heap.size) (h : SeenI s B l W) (hnB : n < B) (hsB : s < B) : TOK B (SeenT n s) W := by
  obtain ⟨v, h1, h2⟩ := h
  rintro k (rfl | rfl | ⟨p, len, cap, hc, rfl⟩)
  · exact ⟨hn, fun h => by omega⟩
  · exact ⟨h1.lt, fun h => by omega⟩
  · have hc' := h1.cell 0
    rw [hc] at hc'
    simp only [List.getElem?_cons_zero, Option.some.injEq] at hc'
    subst hc'
    obtain ⟨g', hg'⟩ : ∃ g', (Value.slice (some p) len cap).ownBlock = some g' ∧ p.block = g' := by
      rcases h2.2 with ⟨h, _⟩ | ⟨g', cap', cur, h, _⟩
      · simp at h
      · simp only [Value.slice.injEq, Option.some.injEq] at h
        obtain ⟨rfl, _⟩ := h
        exact ⟨g', rfl, rfl⟩
    obtain ⟨c, fz, hk⟩ := own_kindC h2 g' hg'.1
    exact ⟨by rw [hg'.2]; exact (h2.lt g' hg'.1).2, fun _ => ⟨_, by rw [hg'.2]; exact hk, rfl⟩⟩
theorem seen_rows {B k : Nat} {xs : List Value} {X w5 : World} {sv : Value} {e : TypeId} {o : Obj} {l3 l5 l6 l7 : List Value} {a3 a5 a6 a7 : Nat} {t3 t5 t6 t7 : TypeId} (hown : X.ownsRow B e 1 sv k xs) (hg : (X.alloc o).grownBy w5 sv.ownBlock)
    (h3 : Row X a3 t3 l3) (h5 : Row X a5 t5 l5) (h6 : Row X a6 t6 l6) (h7 : Row X a7 t7 l7) (l3' : a3 < B) (l5' : a5 < B) (l6' : a6 < B) (l7' : a7 < B) : Row w5 a3 t3 l3 ∧ Row w5 a5 t5 l5 ∧ Row w5 a6 t6 l6 ∧ Row w5 a7 t7 l7 := by
  have h : ∀ (a : Nat) (t : TypeId) (l : List Value), Row X a t l → a < B → Row w5 a t l := fun a t l hr ha =>
    (hg.block a (by have := hr.lt; simp; omega) (fun e => by have := (hown.lt a e.symm).1; omega)).trans (hr.alloc o)
  exact ⟨h _ _ _ h3 l3', h _ _ _ h5 l5', h _ _ _ h6 l6', h _ _ _ h7 l7'⟩
/-- One more text is seen: what the two stores leave. -/
theorem seen_put {n s B : Nat} {l : List ByteArray} {x : ByteArray} {W X w5 : World} {sv v' u0 u : Value} (hn : n < B) (hs : s < B) (hns : n ≠ s) (p6 : Row W n 3 [u0]) (p7 : Row W s 25 [sv]) (hown : W.ownsRow B 9 1 sv l.length (l.map Value.string))
    (hb : Below W.heap.size W X) (hg : X.grownBy w5 sv.ownBlock) (hown' : w5.ownsRow B 9 1 v' (l.length + 1) (l.map Value.string ++ [.string x])) (hat : v'.ownBlock = sv.ownBlock ∨ v'.ownBlock = some X.heap.size) :
    ∃ W6, Hid ((w5.setCell ⟨s, 0, none⟩ v').setCell ⟨n, 0, none⟩ u = W6) ∧ KeepsT (SeenT n s) W W6 ∧ SeenI s B (l ++ [x]) W6 ∧ Row W6 n 3 [u] ∧ (∀ k, k < B → k < W.heap.size → k ≠ n → k ≠ s → W6.heap[k]? = W.heap[k]?) ∧ W6.os = W.os ∧ W6.tape = W.tape ∧ W6.output = W.output ∧ W.heap.size ≤ W6.heap.size := by
  have hk5 : ∀ k, k < W.heap.size → sv.ownBlock ≠ some k → w5.heap[k]? = W.heap[k]? := fun k hk hne => (hg.block k (Nat.lt_of_lt_of_le hk hb.size) (fun e => hne e.symm)).trans (hb.block k hk)
  have hsB : ∀ k, k < B → sv.ownBlock ≠ some k := fun k hk e => by have := (hown.lt k e).1; omega
  have e6 : Row w5 n 3 [u0] := (hk5 n p6.lt (hsB n hn)).trans p6
  have e7 : Row w5 s 25 [sv] := (hk5 s p7.lt (hsB s hs)).trans p7
  have f7 := e7.set 0 v'
  have f6 : Row (w5.setCell ⟨s, 0, none⟩ v') n 3 [u0] := (Below.heap_setCell _ ⟨s, 0, none⟩ _ n hns).trans e6
  have g6 := f6.set 0 u
  have g7 : Row ((w5.setCell ⟨s, 0, none⟩ v').setCell ⟨n, 0, none⟩ u) s 25 [v'] := (Below.heap_setCell _ ⟨n, 0, none⟩ _ s (Ne.symm hns)).trans f7
  have hz : ((w5.setCell ⟨s, 0, none⟩ v').setCell ⟨n, 0, none⟩ u).heap.size = w5.heap.size := by simp [World.setCell]
  have hz5 : W.heap.size ≤ w5.heap.size := Nat.le_trans hb.size hg.size
  have hkk : ∀ k, k ≠ n → k ≠ s → ((w5.setCell ⟨s, 0, none⟩ v').setCell ⟨n, 0, none⟩ u).heap[k]? = w5.heap[k]? := fun k h1 h2 => (Below.heap_setCell _ ⟨n, 0, none⟩ _ k h1).trans (Below.heap_setCell _ ⟨s, 0, none⟩ _ k h2)
  refine ⟨_, Lib.hid rfl, ⟨by omega, fun k hk hT => ?_⟩, ⟨v', g7, ?_⟩, g6, fun k hB hk h1 h2 => (hkk k h1 h2).trans (hk5 k hk (hsB k hB)), hg.os.trans hb.os, hg.tape.trans hb.tape, hg.output.trans hb.output, by omega⟩
  · have h1 : k ≠ n := fun e => hT (.inl e)
    have h2 : k ≠ s := fun e => hT (.inr (.inl e))
    have h3 : sv.ownBlock ≠ some k := fun e => hT (.inr (.inr (by
      rcases hown.2 with ⟨rfl, _⟩ | ⟨g', cap', cur, rfl, _⟩
      · cases e
      · exact ⟨⟨g', 0, none⟩, _, _, p7.cell 0, by simp [Value.ownBlock] at e; exact e.symm⟩)))
    refine ⟨(hkk k h1 h2).trans (hk5 k hk h3), ?_⟩
    rintro (e | e | ⟨q, len, cap, hc, rfl⟩)
    · exact h1 e
    · exact h2 e
    · rw [g7.cell 0] at hc
      simp only [List.getElem?_cons_zero, Option.some.injEq] at hc
      have hq : v'.ownBlock = some q.block := by
        rcases hown'.2 with ⟨h, _⟩ | ⟨g', cap', cur, h, _⟩
        · rw [h] at hc; simp at hc
        · rw [h] at hc
          simp only [Value.slice.injEq, Option.some.injEq] at hc
          obtain ⟨rfl, _⟩ := hc
          rw [h]; rfl
      rcases hat with h | h
      · exact h3 (h.symm.trans hq)
      · rw [hq] at h
        have := hb.size
        simp only [Option.some.injEq] at h
        omega
  · have h := (hown'.kept (row := some s) (w' := w5.setCell ⟨s, 0, none⟩ v') ⟨rfl, rfl, rfl, by simp [World.setCell], fun k _ hk => Below.heap_setCell _ ⟨s, 0, none⟩ _ k (fun e => hk (by rw [e]))⟩ (.inr (fun e => by have := (hown'.lt s e).1; omega))).kept (row := some n) (w' := (w5.setCell ⟨s, 0, none⟩ v').setCell ⟨n, 0, none⟩ u) ⟨rfl, rfl, rfl, by simp [World.setCell], fun k _ hk => Below.heap_setCell _ ⟨n, 0, none⟩ _ k (fun e => hk (by rw [e]))⟩ (.inr (fun e => by have := (hown'.lt n e).1; omega))
    rw [List.length_append, List.map_append]
    exact h
theorem pre_take {pre : List (Nat × FD)} {x : Nat × FD} (h : (pre ++ [x]) <+: fullF) : pre = fullF.take pre.length :=
  List.prefix_iff_eq_take.1 ((List.prefix_append _ _).trans h)
theorem mem_pre : ∀ k, k < 32 → memS (tblF.getD k fd0).name ((fullF.take k).map fun x => x.2.name) = false := by decide +kernel
theorem chk_all : ∀ k, k < 32 → (tblF.getD k fd0).rule.check = 0 ∧ (tblF.getD k fd0).rule.texts.length ≤ 1000 := by decide +kernel
theorem find_own_name : ∀ k, k < 32 → findF (tblF.getD k fd0).name = some (tblF.getD k fd0) := by
  intro k hk
  have hx : (fullF.take k ++ [(k, tblF.getD k fd0)]) <+: fullF := by rw [fullF_take k hk]; exact List.take_prefix _ _
  exact find_at (x := (k, tblF.getD k fd0)) hx (fun y hy he => by
    have := mem_pre k hk
    unfold memS at this
    rw [List.any_eq_false] at this
    exact this y.2.name (List.mem_map.2 ⟨y, hy, rfl⟩) (by simpa using he)) rfl
theorem mem_take (s : ByteArray) (k : Nat) (hk : k < 32) : memS s ((tblF.take (k + 1)).map (·.name)) = (memS s ((tblF.take k).map (·.name)) || decide ((tblF.getD k fd0).name = s)) := by
  have hk' : k < tblF.length := by rw [tblF_length]; exact hk
  rw [← List.take_append_getElem hk', List.map_append]
  unfold memS
  rw [List.any_append]
  simp [List.getD, List.getElem?_eq_getElem hk']
theorem fieldC2_length (f : FD) (v : Value) : (fieldC2 f v).length = 6 := rfl
theorem tabV2_get : ∀ (fs : List FD) (vs : List Value) (k j : Nat), j < 6 → k < fs.length → k < vs.length → (tabV2 fs vs)[k * 6 + j]? = (fieldC2 (fs.getD k fd0) (vs.getD k undef))[j]?
  | [], _, k, j, hj, hk, _ => absurd hk (by simp)
  | _ :: _, [], k, j, hj, _, hk => absurd hk (by simp)
  | f :: fs, v :: vs, 0, j, hj, _, _ => by
    rw [tabV2, Nat.zero_mul, Nat.zero_add, List.getElem?_append_left (by rw [fieldC2_length]; exact hj)]
    rfl
  | f :: fs, v :: vs, k + 1, j, hj, hk, hk2 => by
    rw [tabV2, List.getElem?_append_right (by rw [fieldC2_length]; omega), fieldC2_length, show (k + 1) * 6 + j - 6 = k * 6 + j by omega]
    exact tabV2_get fs vs k j hj (by simpa using hk) (by simpa using hk2)
theorem rtab_at {B g : Nat} {W : World} (h : RTab B g W) (k : Nat) (hk : k < 32) : ∃ v, (∀ j, j < 6 → W.cell? ⟨g, k * 6 + j, none⟩ = (fieldC2 (tblF.getD k fd0) v)[j]?) ∧ StrsB B W v (tblF.getD k fd0).rule.texts := by
  obtain ⟨vs, hl, hr, hx⟩ := h
  exact ⟨vs.getD k undef, fun j hj => by rw [hr.cell, tabV2_get tblF vs k j hj (by rw [tblF_length]; exact hk) (by omega)], hx k hk⟩
theorem RTab.lt {B g : Nat} {W : World} (h : RTab B g W) : g < W.heap.size := by
  obtain ⟨vs, _, hr, _⟩ := h
  exact hr.lt
theorem wpOps_one {P : Program} {ops : Array Oper} {Q : Exit → Act → World → Prop} {k : Nat} {a : Act} {w : World} (o : Oper) (ho : ops[k]? = some o) (hs : ops.size = k + 1) (h : wpList P ops Q [o] a w) : wpOps P ops Q [k] a w := by
  have e := wpOps_eq_wpList (P := P) (ops := ops) (Q := Q) [o] k (fun j => by
    cases j with
    | zero => simp [ho]
    | succ j => rw [Array.getElem?_eq_none (by omega)]; simp)
  have e2 : List.range' k [o].length = [k] := rfl
  rw [e2] at e
  rw [e]
  exact h
def zeroN10 : Array Value := #[.string ⟨#[]⟩, .string ⟨#[]⟩, .string ⟨#[]⟩, .string ⟨#[]⟩, .string ⟨#[]⟩, .string ⟨#[]⟩, .string ⟨#[]⟩, .string ⟨#[]⟩, .string ⟨#[]⟩, .string ⟨#[]⟩]
theorem n10_size {C : List Value} (h : C.length = 10) : (Tryz.prog.info? 42).map (·.size) = some C.length := by rw [h]; kernel_rfl
theorem mem_full (s : ByteArray) : memS s (fullF.map fun x => x.2.name) = (findF s).isSome := by
  have e : (fullF.map fun x => x.2.name) = tblF.map (·.name) := by rfl
  rw [e]
  unfold memS findF
  rw [List.any_map]
  induction tblF with
  | nil => rfl
  | cons x l ih =>
    rw [List.any_cons, List.find?_cons]
    by_cases h : x.name = s
    · simp [h]
    · simp only [Function.comp, decide_eq_false h, Bool.false_or]
      exact ih
theorem mem_tbl (s : ByteArray) : memS s (List.take 32 (List.map (fun x => x.name) tblF)) = (findF s).isSome := by
  rw [← mem_full s]
  rfl
theorem min_cut (stop : Nat) : (if (stop : Int) + 1 < 32 then (stop : Int) + 1 else 32) = min 32 ((stop : Int) + 1) := by
  by_cases h : (stop : Int) + 1 < 32
  · rw [if_pos h]; omega
  · rw [if_neg h]; omega
/-- What stands at the last region. -/
structure YS (w w2 w5 W9 : World) (g c mb D D2 stop : Nat) (mc : Int) (sv : Value) (F A : List Value) (fn : ByteArray) : Prop where
  r3 : Row W9 w.heap.size 5 [.int .u8 stop]
  r4 : Row W9 (w.heap.size + 1) 4 [.bool false]
  r5 : Row W9 w2.heap.size 23 [.slice (some ⟨g, 0, none⟩) 32 32]
  r6 : Row W9 (w2.heap.size + 1) 3 [.int .i64 32]
  r7 : Row W9 (w2.heap.size + 1 + 1) 25 [sv]
  r10 : Row W9 c 3 [.int .i64 mc]
  r11 : Row W9 w5.heap.size 32 F
  c0 : F[0]? = some (.string fn)
  rm : Row W9 mb 42 A
  m0 : A[0]? = some (.string ⟨#[]⟩)
  names : Strs W9 (.slice (some ⟨mb, 1, none⟩) 9 9) msgL
  seen : Strs W9 sv (fullF.map fun x => x.2.name)
  be : Below w.heap.size w W9
  sz : w.heap.size ≤ W9.heap.size
  d1 : W9.heap[D]? = some (.deferred (some []))
  d2 : W9.heap[D2]? = some (.deferred (some []))
  dd : D < D2
  dn1 : w.heap.size + 1 < D
  dn2 : w.heap.size + 1 < D2
theorem names_of {W : World} {mb : Nat} (h : Row W mb 42 (msgsL.map Value.string)) : Strs W (.slice (some ⟨mb, 1, none⟩) 9 9) msgL := by
  refine ⟨some ⟨mb, 1, none⟩, 9, mb, 1, rfl, fun _ => ⟨rfl, h.lt⟩, fun j hj => ?_⟩
  rw [h.cell, Nat.add_comm, show msgsL.map Value.string = .string ⟨#[]⟩ :: msgL.map Value.string from rfl, List.getElem?_cons_succ, List.getElem?_map, List.getElem?_eq_getElem hj]
  simp [List.getD, List.getElem?_eq_getElem hj]

set_option maxRecDepth 100000 in
set_option maxHeartbeats 4000000 in
theorem CatalogTable_walk (name : ByteArray) (stop : Nat) (hstop : stop ≤ 255) (hname : name.size ≤ 140737488355328) (w : World) (hG : G w) (hM : M w) :
    Calls Tryz.prog 3 #[.string name, .int .u8 stop] w fun e w' => e = .returned (.bool true) ∧ Below w.heap.size w w' := by
  have HG := Lib.hid hG
  have HM := Lib.hid hM
  clear hG hM
  refine (callsIn_wide (n := 20)).1 ?_
  refine callsIn_of_wp_marks Tryz.func3 rfl trivial ?_ rfl
  simp only [Tryz.ntmps3, List.size_toArray, List.length_cons, List.length_nil, Nat.reduceAdd, Nat.reduceSub, Array.replicate_succ, Array.replicate_zero, List.push_toArray, List.append_toArray, List.nil_append, List.cons_append]
  have b0 : Below w.heap.size w ((w.alloc (.cells #[.int .u8 stop] 5)).alloc (.cells #[.bool false] 4)) := ((Below.refl _ _).alloc (Nat.le_refl _) _).alloc (by simp) _
  have s0 := (Row.new w 5 [.int .u8 stop]).alloc (.cells #[.bool false] 4)
  have r0 := Row.new (w.alloc (.cells #[.int .u8 stop] 5)) 4 [.bool false]
  rw [World.size_alloc] at r0
  change Row ((w.alloc (.cells #[.int .u8 stop] 5)).alloc (.cells #[.bool false] 4)) w.heap.size 5 [.int .u8 stop] at s0
  change Row ((w.alloc (.cells #[.int .u8 stop] 5)).alloc (.cells #[.bool false] 4)) (w.heap.size + 1) 4 [.bool false] at r0
  gi_wp2_with fail
  refine ⟨trivial, (callsIn_wide.2 (awake15_any _ (HG.out.below b0) (HM.out.below b0))).mono ?_⟩
  rintro e w1 ⟨rfl, hb⟩
  have b1 := b0.trans (hb.mono b0.size)
  have s1 := s0.below hb s0.lt
  have r1 := r0.below hb r0.lt
  clear b0 r0 s0 hb
  by_cases hbig : 100 < name.size
  · have hbigI : (100 : Int) < (name.size : Int) := by omega
    have f0 := r1.frozen 0
    have d0 := r1.cell 0
    have l0 := r1.lt
    simp only [List.getElem?_cons_zero] at d0
    have hr := Lib.hid (r1.set 0 (.bool true))
    have hbe := Lib.hid (b1.setCell (p := ⟨w.heap.size + 1, 0, none⟩) (by exact Nat.le_succ _) (.bool true))
    clear r1 s1 b1
    gi_wp2
    exact ⟨_, results_boolC rfl _ _ (w.heap.size + 1) true rfl hr.out, rfl, hbe.out⟩
  have hbigI : ¬ (100 : Int) < (name.size : Int) := by omega
  gi_wp2_with fail
  refine ⟨trivial, (callsIn_wide.2 (refTable_any _)).mono ?_⟩
  rintro e w2 ⟨g, rfl, hg, hT, hb⟩
  have b2 := b1.trans (hb.mono b1.size)
  have s2 := s1.below hb s1.lt
  have r2 := r1.below hb r1.lt
  have hz1 := b1.size
  clear b1 s1 r1 hb
  gi_wp2_with fail
  refine ⟨trivial, (Fields_in _ _).mono ?_⟩
  rintro e w3 ⟨rfl, rfl⟩
  gi_wp2_with fail
  have q5 := ((Row.new w2 23 [.slice (some ⟨g, 0, none⟩) 32 32]).alloc (.cells #[.int .i64 0] 3)).alloc (.cells #[.slice none 0 0] 25)
  have q6 := (Row.new (w2.alloc (.cells #[.slice (some ⟨g, 0, none⟩) 32 32] 23)) 3 [.int .i64 0]).alloc (.cells #[.slice none 0 0] 25)
  have q7 := Row.new ((w2.alloc (.cells #[.slice (some ⟨g, 0, none⟩) 32 32] 23)).alloc (.cells #[.int .i64 0] 3)) 25 [.slice none 0 0]
  have qb : Below w2.heap.size w2 (((w2.alloc (.cells #[.slice (some ⟨g, 0, none⟩) 32 32] 23)).alloc (.cells #[.int .i64 0] 3)).alloc (.cells #[.slice none 0 0] 25)) := (((Below.refl _ _).alloc (Nat.le_refl _) _).alloc (by simp) _).alloc (by simp; omega) _
  have z0 : (((w2.alloc (.cells #[.slice (some ⟨g, 0, none⟩) 32 32] 23)).alloc (.cells #[.int .i64 0] 3)).alloc (.cells #[.slice none 0 0] 25)).heap.size = w2.heap.size + 3 := by simp
  simp only [World.size_alloc] at q6 q7
  change Row (((w2.alloc (.cells #[.slice (some ⟨g, 0, none⟩) 32 32] 23)).alloc (.cells #[.int .i64 0] 3)).alloc (.cells #[.slice none 0 0] 25)) w2.heap.size 23 [.slice (some ⟨g, 0, none⟩) 32 32] at q5
  change Row (((w2.alloc (.cells #[.slice (some ⟨g, 0, none⟩) 32 32] 23)).alloc (.cells #[.int .i64 0] 3)).alloc (.cells #[.slice none 0 0] 25)) (w2.heap.size + 1) 3 [.int .i64 0] at q6
  change Row (((w2.alloc (.cells #[.slice (some ⟨g, 0, none⟩) 32 32] 23)).alloc (.cells #[.int .i64 0] 3)).alloc (.cells #[.slice none 0 0] 25)) (w2.heap.size + 1 + 1) 25 [.slice none 0 0] at q7
  generalize (((w2.alloc (.cells #[.slice (some ⟨g, 0, none⟩) 32 32] 23)).alloc (.cells #[.int .i64 0] 3)).alloc (.cells #[.slice none 0 0] 25)) = wl at q5 q6 q7 qb z0 ⊢
  have hz2 := b2.size
  have l3 := s2.lt
  have l4 := r2.lt
  have HS := Lib.hid (And.intro hT (And.intro s2 (And.intro r2 b2)))
  clear hT s2 r2 b2
  refine' range_relH (T := SeenT (w2.heap.size + 1) (w2.heap.size + 1 + 1)) rfl (by omega) (gf := 23) (lb := #[]) rfl trivial (enters_of Tryz.func23 (by kernel_rfl) rfl)
    (Fields_stops 19 (by omega) (fun o => o.isCells = false) wl) (fun o h => h) (seenT_low (by omega) (by omega)) (fun k h => h.elim) (Below.refl _ _) (fun B x av W h => by obtain ⟨v, rfl, _⟩ := h; rfl)
    (fun pre W' => (Row W' w2.heap.size 23 [.slice (some ⟨g, 0, none⟩) 32 32] ∧ Below w2.heap.size w2 W') ∧ Row W' (w2.heap.size + 1) 3 [.int .i64 pre.length] ∧ SeenI (w2.heap.size + 1 + 1) wl.heap.size (pre.map fun x => x.2.name) W')
    (fun c pre W' => False)
    (OwnK.and (OwnK.and (OwnK.row (by omega)) (OwnK.below (Nat.le_refl _) (by omega))) (OwnK.and (OwnK.rowF (fun (pre : List (Nat × FD)) => [.int .i64 pre.length]) (by omega)) ((seenI_own (by omega)).lift _)))
    (fun c s X Y row hs hg hr => hs)
    ⟨⟨q5, qb⟩, q6, ⟨_, q7, World.ownsRow_nil _ _ _ _⟩⟩
    (fun pre W' h => seenT_ok h.2.1.lt h.2.2 (by omega) (by omega))
    (fun x a W => ∃ bx v, wl.heap.size + 2 ≤ bx ∧ a = { tmps := List.toArray (.string name :: .int .u8 stop :: undef :: .pointer (some ⟨w.heap.size, 0, none⟩) :: .pointer (some ⟨w.heap.size + 1, 0, none⟩) :: .pointer (some ⟨w2.heap.size, 0, none⟩) :: .pointer (some ⟨w2.heap.size + 1, 0, none⟩) :: .pointer (some ⟨w2.heap.size + 1 + 1, 0, none⟩) :: .int .i64 x.1 :: .pointer (some ⟨bx, 0, none⟩) :: undef :: undef :: undef :: undef :: undef :: undef :: undef :: .bool true :: .bool false :: .string name :: .int .i64 name.size :: .bool (decide ((100 : Int) < name.size)) :: .slice (some ⟨g, 0, none⟩) 32 32 :: .func (.func 23) #[] #[] :: .int .i64 x.1 :: .agg (fieldC x.2 v).toArray :: undef :: undef :: undef :: undef :: undef :: undef :: undef :: undef :: undef :: undef :: undef :: undef :: undef :: undef :: undef :: undef :: undef :: undef :: undef :: undef :: undef :: undef :: undef :: undef :: undef :: undef :: undef :: undef :: undef :: undef :: undef :: undef :: undef :: undef :: undef :: undef :: undef :: undef :: undef :: undef :: undef :: undef :: undef :: undef :: undef :: undef :: undef :: undef :: undef :: undef :: undef :: undef :: undef :: undef :: undef :: undef :: undef :: undef :: undef :: undef :: undef :: undef :: undef :: undef :: undef :: undef :: undef :: undef :: undef :: undef :: undef :: undef :: undef :: undef :: undef :: undef :: undef :: undef :: undef :: undef :: undef :: undef :: undef :: undef :: undef :: undef :: undef :: undef :: undef :: undef :: undef :: undef :: undef :: undef :: undef :: undef :: undef :: undef :: undef :: undef :: undef :: undef :: undef :: undef :: undef :: undef :: undef :: undef :: undef :: undef :: undef :: undef :: undef :: undef :: undef :: undef :: undef :: undef :: undef :: undef :: undef :: undef :: undef :: []), defers := [] } ∧ Row W bx 32 (fieldC x.2 v) ∧ StrsB (wl.heap.size + 2) W v x.2.rule.texts)
    ?ap ?assign ?body ?done ?stop
  case ap =>
    rintro x a' W' o' ⟨bx, v, hbx, ha, hr, hs⟩
    exact ⟨bx, v, hbx, ha, (World.putObj_heap_other (by omega)).trans hr, strsB_putObj hs (by omega) o'⟩
  case assign =>
    rintro l pre x av W' K' hI hpre hsz' ⟨v, rfl, hs⟩ hK
    obtain ⟨a0, cap, rfl⟩ := hs.form
    have HAB : Hid (∀ o : Obj, Below W'.heap.size W' (W'.alloc o)) := Lib.hid fun o => (Below.refl _ _).alloc (Nat.le_refl _) _
    have HI := Lib.hid hI
    have HSs := Lib.hid hs
    have HK := Lib.hid hK
    have hzW := hsz'
    clear hI hs hK
    simp only [fieldC]
    gi_wp2
    exact HK.out _ _ ⟨(HAB.out _).size, fun j o hj ho hc => ((HAB.out _).block j (Array.getElem?_eq_some_iff.1 ho).1).trans ho⟩ (keepsT_below (B := wl.heap.size) (LowT.with (seenT_low (by omega) (by omega))) (by omega) (HAB.out _))
      ⟨⟨HI.out.1.1.below (HAB.out _) HI.out.1.1.lt, HI.out.1.2.trans ((HAB.out _).mono HI.out.1.2.size)⟩, HI.out.2.1.below (HAB.out _) HI.out.2.1.lt, HI.out.2.2.below (HAB.out _)⟩
      ⟨W'.heap.size, .slice a0 x.2.rule.texts.length cap, hzW, rfl, Row.new W' _ _, HSs.out.below (HAB.out _)⟩
  case body =>
    rintro l pre ⟨i, f⟩ a' W' hl hrec ⟨⟨p5, pb⟩, p6, ⟨sv, p7, hown⟩⟩ hpre hsz' ⟨bx, v, hbx, rfl, hr, hs⟩
    obtain ⟨a0, cap, rfl⟩ := hs.form
    obtain ⟨hi, hlt, hf⟩ := full_idx hpre
    have hpt := pre_take hpre
    have pT := HS.out.1.below pb
    have p3 := HS.out.2.1.below pb HS.out.2.1.lt
    have p4 := HS.out.2.2.1.below pb HS.out.2.2.1.lt
    dsimp only at hi hlt hf
    have hnm : memS f.name (pre.map fun x => x.2.name) = false := by rw [hpt, hf, ← hi]; exact mem_pre i hlt
    have hck : f.rule.check = 0 := by rw [hf]; exact (chk_all i hlt).1
    have htl : f.rule.texts.length ≤ 1000 := by rw [hf]; exact (chk_all i hlt).2
    obtain ⟨v2, hc2, hs2⟩ := rtab_at pT i hlt
    rw [← hf] at hc2 hs2
    have hpl : (pre.map fun x => x.2.name).length ≤ 1000000 := by rw [List.length_map]; omega
    have hsv : StrsB wl.heap.size W' sv (pre.map fun x => x.2.name) := strsB_own hown rfl
    rw [← hi] at p6
    have HOW := Lib.hid (And.intro hown hpre)
    have h32 : ¬ (32 : Int) ≤ (i : Int) := by omega
    have hiI : (i : Int) < 32 := by omega
    have HP := Lib.hid (And.intro hpt (And.intro hi hf))
    clear hpt hi hf hown hpre
    have hmx : Tryz.prog.follows .mixedOrders = true := by kernel_rfl
    refine wpIn_block (wpIn_seq (wpIn_seq ?_))
    refine wpIn_region_slotsGB (m := 30) [] hmx (by kernel_rfl) (fun ix v _ => v = ([.int .i64 i, .int .i64 i, .bool false, .bool false, .int .i64 i, .slice (some ⟨g, 0, none⟩) 32 32, .int .i64 32, .bool false, .bool false, .bool false, .agg (fieldC f (.slice a0 f.rule.texts.length cap)).toArray, .slice (some ⟨g, 0, none⟩) 32 32, .int .i64 i, .pointer (some ⟨g, i * 6, none⟩), .agg (fieldC2 f v2).toArray, .bool true, .bool false, .bool false, .bool false, sv, .pointer (some ⟨bx, 0, none⟩), .string f.name, .bool false, .bool false, .bool false, .pointer (some ⟨bx, 1, none⟩), .agg #[.int .i64 f.rule.kind, .int .i64 f.rule.least, .int .i64 f.rule.most, .slice a0 f.rule.texts.length cap], .int .i64 0, .bool false, .bool false] : List Value).getD ix undef) (Below W'.heap.size W') (by kernel_rfl) (by kernel_rfl) (fun i v W W' h _ => h) (below_drewN_c (Below.refl _ _) 1) ?_ ?_
    · refine ⟨?_, ?_, ?_, ?_, ?_, ?_, ?_, ?_, ?_, ?_, ?_, ?_, ?_, ?_, ?_, ?_, ?_, ?_, ?_, ?_, ?_, ?_, ?_, ?_, ?_, ?_, ?_, ?_, ?_, ?_, trivial⟩
      · intro ρ vals X hC hd ht hk hg hf
        have e8 := ht 8
        rw [evalS_old (by kernel_rfl)] at e8
        clear ht hd
        unfold StepG
        unfold StepOK
        go_simp
        exact Below.refl _ _
      · intro ρ vals X hC hd ht hk hg hf
        have e6 := ht 6
        rw [evalS_old (by kernel_rfl)] at e6
        clear ht hd
        have c6 := (p6.below hC p6.lt).cell 0
        simp only [List.getElem?_cons_zero] at c6
        unfold StepG
        unfold StepOK
        go_simp
        exact Below.refl _ _
      · intro ρ vals X hC hd ht hk hg hf
        have e26 := ht 26
        have d0 := hd 0 (by kernel_rfl)
        rw [evalS_tmp (i := 0) (by kernel_rfl), d0] at e26
        have e27 := ht 27
        have d1 := hd 1 (by kernel_rfl)
        rw [evalS_tmp (i := 1) (by kernel_rfl), d1] at e27
        clear ht hd d0 d1
        unfold StepG
        unfold StepOK
        go_simp
        exact Below.refl _ _
      · intro ρ vals X hC hd ht hk hg hf
        have e28 := ht 28
        have d2 := hd 2 (by kernel_rfl)
        rw [evalS_tmp (i := 2) (by kernel_rfl), d2] at e28
        clear ht hd d2
        unfold StepG
        unfold StepOK
        go_simp
        exact Below.refl _ _
      · intro ρ vals X hC hd ht hk hg hf
        have hgd : vals 3 = .bool false := hd 3 (by kernel_rfl)
        have e6 := ht 6
        rw [evalS_old (by kernel_rfl)] at e6
        clear ht hd
        have c6 := (p6.below hC p6.lt).cell 0
        simp only [List.getElem?_cons_zero] at c6
        unfold StepG
        refine ⟨fun _ => ?_, fun h => absurd hgd h⟩
        unfold StepOK
        go_simp
        exact Below.refl _ _
      · intro ρ vals X hC hd ht hk hg hf
        have hgd : vals 3 = .bool false := hd 3 (by kernel_rfl)
        have e5 := ht 5
        rw [evalS_old (by kernel_rfl)] at e5
        clear ht hd
        have c5 := (p5.below hC p5.lt).cell 0
        simp only [List.getElem?_cons_zero] at c5
        unfold StepG
        refine ⟨fun _ => ?_, fun h => absurd hgd h⟩
        unfold StepOK
        go_simp
        exact Below.refl _ _
      · intro ρ vals X hC hd ht hk hg hf
        have hgd : vals 3 = .bool false := hd 3 (by kernel_rfl)
        have e31 := ht 31
        have d5 := hd 5 (by kernel_rfl)
        rw [evalS_tmp (i := 5) (by kernel_rfl), d5] at e31
        clear ht hd d5
        unfold StepG
        refine ⟨fun _ => ?_, fun h => absurd hgd h⟩
        unfold StepOK
        go_simp
        exact Below.refl _ _
      · intro ρ vals X hC hd ht hk hg hf
        have hgd : vals 3 = .bool false := hd 3 (by kernel_rfl)
        have e30 := ht 30
        have d4 := hd 4 (by kernel_rfl)
        rw [evalS_tmp (i := 4) (by kernel_rfl), d4] at e30
        have e32 := ht 32
        have d6 := hd 6 (by kernel_rfl)
        rw [evalS_tmp (i := 6) (by kernel_rfl), d6] at e32
        clear ht hd d4 d6
        unfold StepG
        refine ⟨fun _ => ?_, fun h => absurd hgd h⟩
        unfold StepOK
        go_simp
        exact Below.refl _ _
      · intro ρ vals X hC hd ht hk hg hf
        have e29 := ht 29
        have d3 := hd 3 (by kernel_rfl)
        rw [evalS_tmp (i := 3) (by kernel_rfl), d3] at e29
        have e33 := ht 33
        have d7 := hd 7 (by kernel_rfl)
        rw [evalS_tmp (i := 7) (by kernel_rfl), d7] at e33
        clear ht hd d3 d7
        unfold StepG
        unfold StepOK
        go_simp
        exact Below.refl _ _
      · intro ρ vals X hC hd ht hk hg hf
        have e34 := ht 34
        have d8 := hd 8 (by kernel_rfl)
        rw [evalS_tmp (i := 8) (by kernel_rfl), d8] at e34
        clear ht hd d8
        unfold StepG
        unfold StepOK
        go_simp
        exact Below.refl _ _
      · intro ρ vals X hC hd ht hk hg hf
        have hgd : vals 9 = .bool false := hd 9 (by kernel_rfl)
        have e9 := ht 9
        rw [evalS_old (by kernel_rfl)] at e9
        clear ht hd
        have hr' := hr.below hC hr.lt
        have k0 := hr'.cell 0
        have k1 := hr'.cell 1
        have k2 := hr'.cell 2
        have k3 := hr'.cell 3
        have k4 := hr'.cell 4
        have k5 := hr'.cell 5
        simp only [fieldC, List.getElem?_cons_zero, List.getElem?_cons_succ] at k0 k1 k2 k3 k4 k5
        simp only [fieldC]
        unfold StepG
        refine ⟨fun _ => ?_, fun h => absurd hgd h⟩
        unfold StepOK
        go_simp
        exact Below.refl _ _
      · intro ρ vals X hC hd ht hk hg hf
        have hgd : vals 9 = .bool false := hd 9 (by kernel_rfl)
        have e5 := ht 5
        rw [evalS_old (by kernel_rfl)] at e5
        clear ht hd
        have c5 := (p5.below hC p5.lt).cell 0
        simp only [List.getElem?_cons_zero] at c5
        unfold StepG
        refine ⟨fun _ => ?_, fun h => absurd hgd h⟩
        unfold StepOK
        go_simp
        exact Below.refl _ _
      · intro ρ vals X hC hd ht hk hg hf
        have hgd : vals 9 = .bool false := hd 9 (by kernel_rfl)
        have e6 := ht 6
        rw [evalS_old (by kernel_rfl)] at e6
        clear ht hd
        have c6 := (p6.below hC p6.lt).cell 0
        simp only [List.getElem?_cons_zero] at c6
        unfold StepG
        refine ⟨fun _ => ?_, fun h => absurd hgd h⟩
        unfold StepOK
        go_simp
        exact Below.refl _ _
      · intro ρ vals X hC hd ht hk hg hf
        have hgd : vals 9 = .bool false := hd 9 (by kernel_rfl)
        have e37 := ht 37
        have d11 := hd 11 (by kernel_rfl)
        rw [evalS_tmp (i := 11) (by kernel_rfl), d11] at e37
        have e38 := ht 38
        have d12 := hd 12 (by kernel_rfl)
        rw [evalS_tmp (i := 12) (by kernel_rfl), d12] at e38
        clear ht hd d11 d12
        unfold StepG
        refine ⟨fun _ => ?_, fun h => absurd hgd h⟩
        unfold StepOK
        go_simp
        exact Below.refl _ _
      · intro ρ vals X hC hd ht hk hg hf
        have hgd : vals 9 = .bool false := hd 9 (by kernel_rfl)
        have e39 := ht 39
        have d13 := hd 13 (by kernel_rfl)
        rw [evalS_tmp (i := 13) (by kernel_rfl), d13] at e39
        clear ht hd d13
        have j0 := (World.cell?_of_block (hC.block g pT.lt)).trans (hc2 0 (by omega))
        have j1 := (World.cell?_of_block (hC.block g pT.lt)).trans (hc2 1 (by omega))
        have j2 := (World.cell?_of_block (hC.block g pT.lt)).trans (hc2 2 (by omega))
        have j3 := (World.cell?_of_block (hC.block g pT.lt)).trans (hc2 3 (by omega))
        have j4 := (World.cell?_of_block (hC.block g pT.lt)).trans (hc2 4 (by omega))
        have j5 := (World.cell?_of_block (hC.block g pT.lt)).trans (hc2 5 (by omega))
        simp only [fieldC2, List.getElem?_cons_zero, List.getElem?_cons_succ, Nat.add_zero] at j0 j1 j2 j3 j4 j5
        simp only [fieldC2]
        unfold StepG
        refine ⟨fun _ => ?_, fun h => absurd hgd h⟩
        unfold StepOK
        go_simp
        exact Below.refl _ _
      · intro ρ vals X hC hd ht hk hg hf
        have hgd : vals 9 = .bool false := hd 9 (by kernel_rfl)
        have e36 := ht 36
        have d10 := hd 10 (by kernel_rfl)
        rw [evalS_tmp (i := 10) (by kernel_rfl), d10] at e36
        have e40 := ht 40
        have d14 := hd 14 (by kernel_rfl)
        rw [evalS_tmp (i := 14) (by kernel_rfl), d14] at e40
        clear ht hd d10 d14
        unfold StepG
        refine ⟨fun _ => ?_, fun h => absurd hgd h⟩
        unfold StepOK
        go_simp
        refine (same_any f _ v2 _ (hs.strs.below (Nat.le_refl _) hC) (hs2.strs.below (Nat.le_refl _) hC) htl).mono ?_
        rintro e w3 ⟨rfl, hb⟩
        exact ⟨_, rfl, rfl, hC.trans (hb.mono hC.size), hb⟩
      · intro ρ vals X hC hd ht hk hg hf
        have hgd : vals 9 = .bool false := hd 9 (by kernel_rfl)
        have e41 := ht 41
        have d15 := hd 15 (by kernel_rfl)
        rw [evalS_tmp (i := 15) (by kernel_rfl), d15] at e41
        clear ht hd d15
        unfold StepG
        refine ⟨fun _ => ?_, fun h => absurd hgd h⟩
        unfold StepOK
        go_simp
        exact Below.refl _ _
      · intro ρ vals X hC hd ht hk hg hf
        have e35 := ht 35
        have d9 := hd 9 (by kernel_rfl)
        rw [evalS_tmp (i := 9) (by kernel_rfl), d9] at e35
        have e42 := ht 42
        have d16 := hd 16 (by kernel_rfl)
        rw [evalS_tmp (i := 16) (by kernel_rfl), d16] at e42
        clear ht hd d9 d16
        unfold StepG
        unfold StepOK
        go_simp
        exact Below.refl _ _
      · intro ρ vals X hC hd ht hk hg hf
        have e43 := ht 43
        have d17 := hd 17 (by kernel_rfl)
        rw [evalS_tmp (i := 17) (by kernel_rfl), d17] at e43
        clear ht hd d17
        unfold StepG
        unfold StepOK
        go_simp
        exact Below.refl _ _
      · intro ρ vals X hC hd ht hk hg hf
        have hgd : vals 18 = .bool false := hd 18 (by kernel_rfl)
        have e7 := ht 7
        rw [evalS_old (by kernel_rfl)] at e7
        clear ht hd
        have c7 := (p7.below hC p7.lt).cell 0
        simp only [List.getElem?_cons_zero] at c7
        unfold StepG
        refine ⟨fun _ => ?_, fun h => absurd hgd h⟩
        unfold StepOK
        go_simp
        exact Below.refl _ _
      · intro ρ vals X hC hd ht hk hg hf
        have hgd : vals 18 = .bool false := hd 18 (by kernel_rfl)
        have e9 := ht 9
        rw [evalS_old (by kernel_rfl)] at e9
        clear ht hd
        unfold StepG
        refine ⟨fun _ => ?_, fun h => absurd hgd h⟩
        unfold StepOK
        go_simp
        exact Below.refl _ _
      · intro ρ vals X hC hd ht hk hg hf
        have hgd : vals 18 = .bool false := hd 18 (by kernel_rfl)
        have e46 := ht 46
        have d20 := hd 20 (by kernel_rfl)
        rw [evalS_tmp (i := 20) (by kernel_rfl), d20] at e46
        clear ht hd d20
        have hr' := hr.below hC hr.lt
        have k0 := hr'.cell 0
        have k1 := hr'.cell 1
        have k2 := hr'.cell 2
        have k3 := hr'.cell 3
        have k4 := hr'.cell 4
        have k5 := hr'.cell 5
        simp only [fieldC, List.getElem?_cons_zero, List.getElem?_cons_succ] at k0 k1 k2 k3 k4 k5
        unfold StepG
        refine ⟨fun _ => ?_, fun h => absurd hgd h⟩
        unfold StepOK
        go_simp
        exact Below.refl _ _
      · intro ρ vals X hC hd ht hk hg hf
        have hgd : vals 18 = .bool false := hd 18 (by kernel_rfl)
        have e45 := ht 45
        have d19 := hd 19 (by kernel_rfl)
        rw [evalS_tmp (i := 19) (by kernel_rfl), d19] at e45
        have e47 := ht 47
        have d21 := hd 21 (by kernel_rfl)
        rw [evalS_tmp (i := 21) (by kernel_rfl), d21] at e47
        clear ht hd d19 d21
        unfold StepG
        refine ⟨fun _ => ?_, fun h => absurd hgd h⟩
        unfold StepOK
        go_simp
        refine (contains_any sv _ f.name _ (hsv.strs.below (Nat.le_refl _) hC) hpl).mono ?_
        rintro e w3 ⟨rfl, rfl⟩
        exact ⟨_, rfl, by rw [hnm], hC, Below.refl _ _⟩
      · intro ρ vals X hC hd ht hk hg hf
        have e44 := ht 44
        have d18 := hd 18 (by kernel_rfl)
        rw [evalS_tmp (i := 18) (by kernel_rfl), d18] at e44
        have e48 := ht 48
        have d22 := hd 22 (by kernel_rfl)
        rw [evalS_tmp (i := 22) (by kernel_rfl), d22] at e48
        clear ht hd d18 d22
        unfold StepG
        unfold StepOK
        go_simp
        exact Below.refl _ _
      · intro ρ vals X hC hd ht hk hg hf
        have e49 := ht 49
        have d23 := hd 23 (by kernel_rfl)
        rw [evalS_tmp (i := 23) (by kernel_rfl), d23] at e49
        clear ht hd d23
        unfold StepG
        unfold StepOK
        go_simp
        exact Below.refl _ _
      · intro ρ vals X hC hd ht hk hg hf
        have hgd : vals 24 = .bool false := hd 24 (by kernel_rfl)
        have e9 := ht 9
        rw [evalS_old (by kernel_rfl)] at e9
        clear ht hd
        unfold StepG
        refine ⟨fun _ => ?_, fun h => absurd hgd h⟩
        unfold StepOK
        go_simp
        exact Below.refl _ _
      · intro ρ vals X hC hd ht hk hg hf
        have hgd : vals 24 = .bool false := hd 24 (by kernel_rfl)
        have e51 := ht 51
        have d25 := hd 25 (by kernel_rfl)
        rw [evalS_tmp (i := 25) (by kernel_rfl), d25] at e51
        clear ht hd d25
        have hr' := hr.below hC hr.lt
        have k0 := hr'.cell 0
        have k1 := hr'.cell 1
        have k2 := hr'.cell 2
        have k3 := hr'.cell 3
        have k4 := hr'.cell 4
        have k5 := hr'.cell 5
        simp only [fieldC, List.getElem?_cons_zero, List.getElem?_cons_succ] at k0 k1 k2 k3 k4 k5
        unfold StepG
        refine ⟨fun _ => ?_, fun h => absurd hgd h⟩
        unfold StepOK
        go_simp
        exact Below.refl _ _
      · intro ρ vals X hC hd ht hk hg hf
        have hgd : vals 24 = .bool false := hd 24 (by kernel_rfl)
        have e52 := ht 52
        have d26 := hd 26 (by kernel_rfl)
        rw [evalS_tmp (i := 26) (by kernel_rfl), d26] at e52
        clear ht hd d26
        unfold StepG
        refine ⟨fun _ => ?_, fun h => absurd hgd h⟩
        unfold StepOK
        go_simp
        refine (Check_any f.rule a0 _ cap rfl _).mono ?_
        rintro e w3 ⟨rfl, hb⟩
        exact ⟨_, rfl, by rw [hck], hC.trans (hb.mono hC.size), hb⟩
      · intro ρ vals X hC hd ht hk hg hf
        have hgd : vals 24 = .bool false := hd 24 (by kernel_rfl)
        have e53 := ht 53
        have d27 := hd 27 (by kernel_rfl)
        rw [evalS_tmp (i := 27) (by kernel_rfl), d27] at e53
        clear ht hd d27
        unfold StepG
        refine ⟨fun _ => ?_, fun h => absurd hgd h⟩
        unfold StepOK
        go_simp
        exact Below.refl _ _
      · intro ρ vals X hC hd ht hk hg hf
        have e50 := ht 50
        have d24 := hd 24 (by kernel_rfl)
        rw [evalS_tmp (i := 24) (by kernel_rfl), d24] at e50
        have e54 := ht 54
        have d28 := hd 28 (by kernel_rfl)
        rw [evalS_tmp (i := 28) (by kernel_rfl), d28] at e54
        clear ht hd d24 d28
        unfold StepG
        unfold StepOK
        go_simp
        exact Below.refl _ _
    · intro vals X hC hR
      have r0 : vals 0 = .int .i64 i := hR 0 (by omega)
      have r1 : vals 1 = .int .i64 i := hR 1 (by omega)
      have r2 : vals 2 = .bool false := hR 2 (by omega)
      have r3 : vals 3 = .bool false := hR 3 (by omega)
      have r4 : vals 4 = .int .i64 i := hR 4 (by omega)
      have r5 : vals 5 = .slice (some ⟨g, 0, none⟩) 32 32 := hR 5 (by omega)
      have r6 : vals 6 = .int .i64 32 := hR 6 (by omega)
      have r7 : vals 7 = .bool false := hR 7 (by omega)
      have r8 : vals 8 = .bool false := hR 8 (by omega)
      have r9 : vals 9 = .bool false := hR 9 (by omega)
      have r10 : vals 10 = .agg (fieldC f (.slice a0 f.rule.texts.length cap)).toArray := hR 10 (by omega)
      have r11 : vals 11 = .slice (some ⟨g, 0, none⟩) 32 32 := hR 11 (by omega)
      have r12 : vals 12 = .int .i64 i := hR 12 (by omega)
      have r13 : vals 13 = .pointer (some ⟨g, i * 6, none⟩) := hR 13 (by omega)
      have r14 : vals 14 = .agg (fieldC2 f v2).toArray := hR 14 (by omega)
      have r15 : vals 15 = .bool true := hR 15 (by omega)
      have r16 : vals 16 = .bool false := hR 16 (by omega)
      have r17 : vals 17 = .bool false := hR 17 (by omega)
      have r18 : vals 18 = .bool false := hR 18 (by omega)
      have r19 : vals 19 = sv := hR 19 (by omega)
      have r20 : vals 20 = .pointer (some ⟨bx, 0, none⟩) := hR 20 (by omega)
      have r21 : vals 21 = .string f.name := hR 21 (by omega)
      have r22 : vals 22 = .bool false := hR 22 (by omega)
      have r23 : vals 23 = .bool false := hR 23 (by omega)
      have r24 : vals 24 = .bool false := hR 24 (by omega)
      have r25 : vals 25 = .pointer (some ⟨bx, 1, none⟩) := hR 25 (by omega)
      have r26 : vals 26 = .agg #[.int .i64 f.rule.kind, .int .i64 f.rule.least, .int .i64 f.rule.most, .slice a0 f.rule.texts.length cap] := hR 26 (by omega)
      have r27 : vals 27 = .int .i64 0 := hR 27 (by omega)
      have r28 : vals 28 = .bool false := hR 28 (by omega)
      have r29 : vals 29 = .bool false := hR 29 (by omega)
      clear hR
      simp only [wpOpsIn, List.take, putsS, Act.put, List.setIfInBounds_toArray, List.set_cons_zero, List.set_cons_succ, Nat.reduceAdd, r0, r1, r2, r3, r4, r5, r6, r7, r8, r9, r10, r11, r12, r13, r14, r15, r16, r17, r18, r19, r20, r21, r22, r23, r24, r25, r26, r27, r28, r29]
      clear r0 r1 r2 r3 r4 r5 r6 r7 r8 r9 r10 r11 r12 r13 r14 r15 r16 r17 r18 r19 r20 r21 r22 r23 r24 r25 r26 r27 r28 r29
      obtain ⟨i0, hi0, hz0, hz1, hz2⟩ := info_parts strC_info
      have x5 := p5.below hC p5.lt
      have x6 := p6.below hC p6.lt
      have x7 := p7.below hC p7.lt
      have x3 := p3.below hC p3.lt
      have xr := hr.below hC hr.lt
      have xo := own_belowC HOW.out.1 hC
      have c7 := x7.cell 0
      have k0 := xr.cell 0
      simp only [fieldC, List.getElem?_cons_zero] at c7 k0
      have hszX := hC.size
      have hpl2 : (pre.map fun x => x.2.name).length = i := by rw [List.length_map]; exact HP.out.2.1.symm
      have HB := Lib.hid (And.intro p5 (And.intro p6 (And.intro p7 (And.intro hC (And.intro x3 (And.intro x5 (And.intro x6 x7)))))))
      have hsI : (stop : Int) ≤ 255 := by omega
      have hgt : ¬ ((stop : Int) + 32 < (i : Int) + 1) := by omega
      have hwi : IntKind.i64.wrap ((i : Int) + 1) = (i : Int) + 1 := IntWalk.i64_in _ (by omega)
      have hws : IntKind.i64.wrap ((stop : Int) + 32) = (stop : Int) + 32 := IntWalk.i64_in _ (by omega)
      have hwt : IntKind.i64.wrap (stop : Int) = (stop : Int) := IntWalk.i64_in _ (by omega)
      have HXO := Lib.hid xo
      clear x3 x5 x6 x7 xr xo p3 p4 p5 p6 p7 pT hs hs2 hc2 hsv hr hC hrec hnm hck htl hpl
      gi_wp2_with (gi_at_builtin; go_loud (refine Go.wpListIn_append_own_at _ rfl _ _ 25 rfl wl.heap.size 9 i0 (.string ⟨#[]⟩) 1 16 Tryz.underlying25 hi0 hz0 hz1 hz2 rfl (by decide) _ _ _ rfl (HXO.out.alloc _) ⟨X.heap.size, 0, none⟩ 1 1 [.string f.name] rfl rfl (cell_one_new _ _ _) (by simp [Value.oneCell']) (by unfold maxLen; omega) (by omega) (by simp; omega) ?_; intro v' w5 hown' hgrow hnil hat; clear hnil; obtain ⟨g', cap', rfl⟩ := own_formC hown'; obtain ⟨W6, hW6, kT, sI, r6, kk, ee⟩ := seen_put (n := w2.heap.size + 1) (s := w2.heap.size + 1 + 1) (u := .int .i64 ((i : Int) + 1)) (by omega) (by omega) (by omega) HB.out.2.1 HB.out.2.2.1 HOW.out.1 (HB.out.2.2.2.1.trans (((Below.refl _ _).alloc (Nat.le_refl _) _).mono HB.out.2.2.2.1.size)) hgrow hown' hat; obtain ⟨y3, y5, y6, y7⟩ := seen_rows HXO.out hgrow HB.out.2.2.2.2.1 HB.out.2.2.2.2.2.1 HB.out.2.2.2.2.2.2.1 HB.out.2.2.2.2.2.2.2 (by omega) (by omega) (by omega) (by omega); have HE := Lib.hid (And.intro kT (And.intro sI (And.intro r6 (And.intro kk ee)))); have z3 := y3.cell 0; have z5 := y5.cell 0; have z6 := y6.cell 0; have zf := y6.frozen 0; have z7 := y7.frozen 0; have zs := y7.cell 0; simp only [List.getElem?_cons_zero] at z3 z5 z6 zs; clear hown' hgrow hat kT sI r6 kk ee y3 y5 y6 y7))
      rw [hpl2] at hW6
      rw [hW6.out]
      obtain ⟨kT, sI, r6, kk, e1, e2, e3, zz⟩ := HE.out
      have hz' := hsz'
      have hlen : (i : Int) + 1 = (((pre ++ [((i, f) : Nat × FD)]).length : Nat) : Int) := by rw [List.length_append, ← HP.out.2.1]; simp
      rw [hlen] at r6
      have hTk : TOK wl.heap.size (SeenT (w2.heap.size + 1) (w2.heap.size + 1 + 1)) W' := seenT_ok HB.out.2.1.lt ⟨sv, HB.out.2.2.1, HOW.out.1⟩ (by omega) (by omega)
      have hKF := keepsFrom_t hTk kT
      simp only [z0] at hKF sI ⊢
      refine ⟨hKF, keepsT_with kT, ⟨(kk _ (by omega) (by omega) (by omega) (by omega)).trans HB.out.1, ⟨e1.trans pb.os, e2.trans pb.tape, e3.trans pb.output, Nat.le_trans pb.size zz, fun k hk => (kk k (by omega) (by omega) (by omega) (by omega)).trans (pb.block k hk)⟩⟩, r6, ?_⟩
      rw [List.map_append]
      exact sI
  case stop =>
    rintro D c pre W' hD hpre h hK
    exact h.elim
  case done =>
    rintro D W' hD ⟨⟨p5, pb⟩, p6, ⟨sv, p7, hown⟩⟩ hK
    rw [fullF_length] at p6
    have hzd := hD
    have hs3 := HS.out.2.1.below pb HS.out.2.1.lt
    have hszW := pb.size
    have HB := Lib.hid (And.intro p5 (And.intro pb (And.intro p6 (And.intro p7 (And.intro hown hK)))))
    clear p5 pb p6 p7 hown hK
    gi_wp2_with fail
    refine ⟨trivial, (Fields_in _ _).mono ?_⟩
    rintro e w4 ⟨rfl, rfl⟩
    gi_wp2_with fail
    obtain ⟨c, hc⟩ : ∃ c, W'.heap.size = c := ⟨_, rfl⟩
    have t0 := hs3.alloc (.cells #[.int .i64 0] 3)
    have t1 := Row.new W' 3 [.int .i64 0]
    have tb : Below W'.heap.size W' (W'.alloc (.cells #[.int .i64 0] 3)) := (Below.refl _ _).alloc (Nat.le_refl _) _
    have tz : (W'.alloc (.cells #[.int .i64 0] 3)).heap.size = c + 1 := by simp [hc]
    change Row (W'.alloc (.cells #[.int .i64 0] 3)) W'.heap.size 3 [.int .i64 0] at t1
    generalize (W'.alloc (.cells #[.int .i64 0] 3)) = wc at t0 t1 tb tz ⊢
    rw [hc] at t1 tb ⊢
    have hwc : w.heap.size < c := by have := hs3.lt; omega
    refine' range_rel (T := fun _ k => k = c) rfl (by omega) (gf := 23) (lb := #[]) rfl trivial (enters_of Tryz.func23 (by kernel_rfl) rfl)
      (Fields_stops 19 (by omega) (fun o => o.isCells = false) wc) (fun o h => h) (fun _ _ _ k h => h) (fun k h => h.elim) (Below.refl _ _) (fun B x av W h => by obtain ⟨v, rfl, _⟩ := h; rfl)
      (fun pre V => pre.length ≤ stop ∧ Row V w.heap.size 5 [.int .u8 stop] ∧ Row V c 3 [.int .i64 pre.length] ∧ Below c W' V)
      (fun cd pre V => cd = .exit 2 ∧ stop + 1 ≤ 32 ∧ Row V c 3 [.int .i64 ((stop : Int) + 1)] ∧ Below c W' V)
      (OwnK.and (OwnK.pure (φ := fun (pre : List (Nat × FD)) => pre.length ≤ stop)) (OwnK.and (OwnK.row (by omega)) (OwnK.and (OwnK.rowF (fun (pre : List (Nat × FD)) => [.int .i64 pre.length]) (by omega)) (OwnK.below (by omega) (by omega)))))
      (fun cd s X Y row hs hg hr => by
        obtain ⟨h1, h2, h3, h4⟩ := hs
        have hr' : ∀ r, row = some r → ∃ o : Obj, X.heap[r]? = some o ∧ o.isCells = false := fun r e => (hr r e).2
        exact ⟨h1, h2, row_grown h3 hg hr', OwnK.below (β := Unit) (by omega) (by omega) () X Y row h4 hg hr⟩)
      ⟨Nat.zero_le _, t0, t1, tb⟩
      (fun pre V h k hk => ⟨by have h3 := h.2.2.1.lt; subst hk; exact h3, fun hge => by subst hk; omega⟩)
      (fun x a V => ∃ v, a = { tmps := List.toArray (.string name :: .int .u8 stop :: undef :: .pointer (some ⟨w.heap.size, 0, none⟩) :: .pointer (some ⟨w.heap.size + 1, 0, none⟩) :: .pointer (some ⟨w2.heap.size, 0, none⟩) :: .pointer (some ⟨w2.heap.size + 1, 0, none⟩) :: .pointer (some ⟨w2.heap.size + 1 + 1, 0, none⟩) :: undef :: undef :: .pointer (some ⟨c, 0, none⟩) :: undef :: undef :: undef :: undef :: undef :: undef :: .bool true :: .bool false :: .string name :: .int .i64 name.size :: .bool (decide ((100 : Int) < name.size)) :: .slice (some ⟨g, 0, none⟩) 32 32 :: .func (.func 23) #[] #[] :: undef :: undef :: undef :: undef :: undef :: undef :: undef :: undef :: undef :: undef :: undef :: undef :: undef :: undef :: undef :: undef :: undef :: undef :: undef :: undef :: undef :: undef :: undef :: undef :: undef :: undef :: undef :: undef :: undef :: undef :: undef :: undef :: undef :: undef :: undef :: undef :: undef :: undef :: undef :: undef :: undef :: undef :: undef :: undef :: undef :: undef :: .func (.func 23) #[] #[] :: .int .i64 x.1 :: .agg (fieldC x.2 v).toArray :: undef :: undef :: undef :: undef :: undef :: undef :: undef :: undef :: undef :: undef :: undef :: undef :: undef :: undef :: undef :: undef :: undef :: undef :: undef :: undef :: undef :: undef :: undef :: undef :: undef :: undef :: undef :: undef :: undef :: undef :: undef :: undef :: undef :: undef :: undef :: undef :: undef :: undef :: undef :: undef :: undef :: undef :: undef :: undef :: undef :: undef :: undef :: undef :: undef :: undef :: undef :: undef :: undef :: undef :: undef :: undef :: undef :: undef :: undef :: undef :: undef :: undef :: undef :: undef :: undef :: undef :: undef :: undef :: undef :: undef :: undef :: undef :: undef :: undef :: undef :: undef :: []), defers := [] })
      ?ap2 ?assign2 ?body2 ?done2 ?stop2
    case ap2 =>
      rintro x a' V o' ⟨v, ha⟩
      exact ⟨v, ha⟩
    case assign2 =>
      rintro l pre x av V K' hI hpre hsz' ⟨v, rfl, hs⟩ hKc
      gi_wp2
      exact hKc _ _ ⟨Nat.le_refl _, fun j o hj ho hc => ho⟩ ⟨Nat.le_refl _, fun j hj ht => ⟨rfl, ht⟩⟩ hI ⟨v, by simp⟩
    case body2 =>
      rintro l pre ⟨i, f⟩ a' V ⟨hle, v3, v6, vb⟩ hpre hsz' ⟨v, rfl⟩
      obtain ⟨hi, hlt, hf⟩ := full_idx hpre
      dsimp only at hi hlt hf
      have c3 := v3.cell 0
      have c6 := v6.cell 0
      have cf := v6.frozen 0
      simp only [List.getElem?_cons_zero] at c3 c6
      have hpl : pre.length < 32 := by omega
      have hle' : (pre.length : Int) ≤ stop := by omega
      have hne : w.heap.size ≠ c := by omega
      have hw1 : IntKind.i64.wrap ((pre.length : Int) + 1) = (pre.length : Int) + 1 := IntWalk.i64_in _ (by omega)
      have hw2 : IntKind.i64.wrap (stop : Int) = (stop : Int) := IntWalk.i64_in _ (by omega)
      obtain ⟨V6, hV6⟩ : ∃ V6, Hid (V.setCell ⟨c, 0, none⟩ (.int .i64 ((pre.length : Int) + 1)) = V6) := ⟨_, Lib.hid rfl⟩
      have hk6 : ∀ k, k ≠ c → V6.heap[k]? = V.heap[k]? := fun k hk => by rw [← hV6.out]; exact Below.heap_setCell _ ⟨c, 0, none⟩ _ k hk
      have hz6 : V6.heap.size = V.heap.size := by rw [← hV6.out]; simp [World.setCell]
      have s6 : Row V6 c 3 [.int .i64 ((pre.length : Int) + 1)] := by rw [← hV6.out]; exact v6.set 0 _
      have s3 : Row V6 w.heap.size 5 [.int .u8 stop] := (hk6 _ hne).trans v3
      have sb : Below c W' V6 := by rw [← hV6.out]; exact vb.setCell (p := ⟨c, 0, none⟩) (Nat.le_refl _) _
      have HP := Lib.hid (And.intro hk6 (And.intro hz6 (And.intro s6 (And.intro s3 sb))))
      clear hk6 hz6 s6 s3 sb v3 v6 vb hf hi hpre
      by_cases hgt : stop < pre.length + 1
      · have hgI : (stop : Int) < (pre.length : Int) + 1 := by omega
        gi_wp2
        rw [hV6.out]
        obtain ⟨hk6, hz6, s6, s3, sb⟩ := HP.out
        have he : (pre.length : Int) + 1 = (stop : Int) + 1 := by omega
        rw [he] at s6
        exact ⟨⟨Nat.le_of_eq hz6.symm, fun j o hj ho hc => (hk6 j (by omega)).trans ho⟩, ⟨Nat.le_of_eq hz6.symm, fun j hj ht => ⟨hk6 j (fun e => ht (.inr e)), ht⟩⟩, rfl, by omega, s6, sb⟩
      · have hgI : ¬ (stop : Int) < (pre.length : Int) + 1 := by omega
        gi_wp2
        rw [hV6.out]
        obtain ⟨hk6, hz6, s6, s3, sb⟩ := HP.out
        have he : (pre.length : Int) + 1 = (((pre ++ [((i, f) : Nat × FD)]).length : Nat) : Int) := by rw [List.length_append]; simp
        rw [he] at s6
        exact ⟨⟨Nat.le_of_eq hz6.symm, fun j o hj ho hc => (hk6 j (by omega)).trans ho⟩, ⟨Nat.le_of_eq hz6.symm, fun j hj ht => ⟨hk6 j (fun e => ht (.inr e)), ht⟩⟩, by rw [List.length_append]; simp; omega, s3, s6, sb⟩
    case done2 =>
      rintro D2 V hD2 ⟨hle, v3, v6, vb⟩ hK2
      rw [fullF_length] at v6 hle
      have hcv : (min 32 ((stop : Int) + 1)) = ((32 : Nat) : Int) := by omega
      rw [← hcv] at v6
      have HV := Lib.hid (And.intro v6 (And.intro vb hK2))
      clear v3 v6 vb hK2 hcv
      gi_wp2_with fail
      refine ⟨trivial, (callsIn_wide.2 (Find_any name _)).mono ?_⟩
      rintro e w5 ⟨vf, rfl, hsf, hb5⟩
      generalize hfF : (findF name).getD fd0 = fF at hsf ⊢
      have HFF := Lib.hid hfF
      clear hfF
      obtain ⟨fa, fcap, rfl⟩ := hsf.form
      have HF5 := Lib.hid (And.intro hsf hb5)
      clear hsf hb5
      have hlc : w2.heap.size < c := by have := HB.out.1.lt; omega
      have hvz : c ≤ V.heap.size := Nat.le_trans (Nat.le_of_eq hc.symm) HV.out.2.1.size
      have x5 := (HB.out.1.below HV.out.2.1 (by omega)).below HF5.out.2 (by omega)
      have d5 := x5.cell 0
      simp only [List.getElem?_cons_zero] at d5
      have h5z := HF5.out.2.size
      have hlt5 : w2.heap.size < w5.heap.size := by omega
      clear x5
      simp only [fieldC]
      gi_wp2_with fail
      have xb : Below w5.heap.size w5 (w5.alloc (.cells #[.string fF.name, .int .i64 fF.rule.kind, .int .i64 fF.rule.least, .int .i64 fF.rule.most, .slice fa fF.rule.texts.length fcap, .string fF.inn] 32)) := (Below.refl _ _).alloc (Nat.le_refl _) _
      have xr := Row.new w5 32 (fieldC fF (.slice fa fF.rule.texts.length fcap))
      change Row (w5.alloc (.cells #[.string fF.name, .int .i64 fF.rule.kind, .int .i64 fF.rule.least, .int .i64 fF.rule.most, .slice fa fF.rule.texts.length fcap, .string fF.inn] 32)) w5.heap.size 32 (fieldC fF (.slice fa fF.rule.texts.length fcap)) at xr
      have xz : (w5.alloc (.cells #[.string fF.name, .int .i64 fF.rule.kind, .int .i64 fF.rule.least, .int .i64 fF.rule.most, .slice fa fF.rule.texts.length fcap, .string fF.inn] 32)).heap.size = w5.heap.size + 1 := by simp
      generalize (w5.alloc (.cells #[.string fF.name, .int .i64 fF.rule.kind, .int .i64 fF.rule.least, .int .i64 fF.rule.most, .slice fa fF.rule.texts.length fcap, .string fF.inn] 32)) = w6 at xb xr xz ⊢
      have HX6 := Lib.hid (And.intro xb xr)
      clear xb xr
      gi_loopw [86, 13] (fun x y wr => ∃ k : Nat, x = .int .i64 k ∧ k ≤ 32 ∧ y = .bool (memS name ((tblF.take k).map (·.name))) ∧ Hid (Below w6.heap.size w6 wr)) (fun x _ _ => 32 - (intOf x).toNat)
      case atStart => exact ⟨0, by go_num, by omega, rfl, Lib.hid (Below.refl _ _)⟩
      case round =>
        obtain ⟨k, rfl, hk, rfl, HI⟩ := hrel
        by_cases hlt : k < 32
        · have hltI : (k : Int) < 32 := by omega
          have TT := ((((HS.out.1.below HB.out.2.1).below (by rw [hc]; exact HV.out.2.1)).below HF5.out.2).below HX6.out.1).below HI.out
          obtain ⟨v2, hc2, hs2⟩ := rtab_at TT k hlt
          have hfn := find_own_name k hlt
          have hmt := mem_take name k hlt
          have htl := (chk_all k hlt).2
          clear TT
          generalize tblF.getD k fd0 = fk at hc2 hs2 hfn hmt htl
          obtain ⟨a2, cap2, rfl⟩ := hs2.form
          have j0 := hc2 0 (by omega)
          have j1 := hc2 1 (by omega)
          have j2 := hc2 2 (by omega)
          have j3 := hc2 3 (by omega)
          have j4 := hc2 4 (by omega)
          have j5 := hc2 5 (by omega)
          simp only [fieldC2, List.getElem?_cons_zero, List.getElem?_cons_succ, Nat.add_zero] at j0 j1 j2 j3 j4 j5
          have HS2 := Lib.hid (And.intro hs2 htl)
          have HM := Lib.hid hmt
          clear hc2 hs2 hmt htl
          have HA := Lib.hid (HI.out.trans (((Below.refl wr.heap.size wr).alloc (Nat.le_refl _) (.cells (fieldC2 fk (.slice a2 fk.rule.texts.length cap2)).toArray 36)).mono HI.out.size))
          by_cases hn : fk.name = name
          · have heq : (fk.name.toList == name.toList) = true := by rw [hn]; simp
            have hyr := HX6.out.2.below HI.out HX6.out.2.lt
            have hiz := HI.out.size
            have hlw : w5.heap.size < wr.heap.size := by omega
            have m0 := hyr.cell 0
            have m1 := hyr.cell 1
            have m2 := hyr.cell 2
            have m3 := hyr.cell 3
            have m4 := hyr.cell 4
            have m5 := hyr.cell 5
            simp only [fieldC, List.getElem?_cons_zero, List.getElem?_cons_succ] at m0 m1 m2 m3 m4 m5
            have HN := Lib.hid (And.intro hn hfn)
            clear hyr hn hfn
            gi_wp2_with fail
            obtain ⟨hn', hfn'⟩ := HN.out
            have e : fF = fk := by rw [← HFF.out, ← hn', hfn']; rfl
            subst e
            have hab : Below wr.heap.size wr (wr.alloc (.cells (fieldC2 fF (.slice a2 fF.rule.texts.length cap2)).toArray 36)) := (Below.refl _ _).alloc (Nat.le_refl _) _
            refine ⟨trivial, (callsIn_wide.2 (same_any fF (.slice fa fF.rule.texts.length fcap) (.slice a2 fF.rule.texts.length cap2) _ ((((HF5.out.1.below HX6.out.1).below HI.out).below hab).strs) ((HS2.out.1.below hab).strs) HS2.out.2)).mono ?_⟩
            rintro e w7 ⟨rfl, hb7⟩
            have HA7 := Lib.hid (HA.out.trans (hb7.mono HA.out.size))
            have HN' := Lib.hid hn'
            clear hb7 hab hn' hfn' m0 m1 m2 m3 m4 m5 j0 j1 j2 j3 j4 j5 HN
            gi_wp2
            go_roundw
            case rel => exact ⟨k + 1, by go_num, by omega, by rw [HM.out, decide_eq_true HN'.out, Bool.or_true], HA7⟩
            case measure => simp [intOf]; omega
          · have hneq := str_neC hn
            have HN := Lib.hid hn
            clear hn hfn
            gi_wp2
            go_roundw
            case rel => exact ⟨k + 1, by go_num, by omega, by rw [HM.out, decide_eq_false HN.out, Bool.or_false], HA⟩
            case measure => simp [intOf]; omega
        · have hgeI : ¬ (k : Int) < 32 := by omega
          have hk32 : k = 32 := by omega
          subst hk32
          gi_wp2_with fail
          rw [mem_tbl]
          have HMS : Hid (∀ W : World, CallsIn Fence.wide 19 Tryz.prog 12 #[] W fun e w' => e = .returned (.agg (msgsL.map Value.string).toArray) ∧ Below W.heap.size W w') := Lib.hid fun W => by
            have h := callsIn_wide (n := 19).2 (Messages_any W)
            rwa [msgsV_is] at h
          gi_wp2_with fail
          refine ⟨trivial, (HMS.out _).mono ?_⟩
          rintro e w8 ⟨rfl, hb8⟩
          have hA10 : (msgsL.map Value.string).length = 10 := rfl
          have hA1 : ∀ v ∈ msgsL.map Value.string, v.oneCell' = true := fun v hv => by
            obtain ⟨c, _, rfl⟩ := List.mem_map.1 hv
            rfl
          obtain ⟨A, hAA⟩ : ∃ A, msgsL.map Value.string = A := ⟨_, rfl⟩
          rw [hAA] at hA10 hA1 ⊢
          obtain ⟨W9, hW9⟩ : ∃ W9, (w8.alloc (.cells zeroN10 42)).setRow w8.heap.size A.toArray = W9 := ⟨_, rfl⟩
          have hab : Below w8.heap.size w8 W9 := by rw [← hW9]; exact below_setRow (B := w8.heap.size) ((Below.refl _ _).alloc (Nat.le_refl _) _) (Nat.le_refl _) _
          have hrow : Row W9 w8.heap.size 42 A := by rw [← hW9]; exact setRow_heap _ _ zeroN10 _ _ (0, 0) (heap_alloc_new w8 _)
          obtain ⟨mb, hmb⟩ : ∃ mb, w8.heap.size = mb := ⟨_, rfl⟩
          obtain ⟨mc, hmc0⟩ : ∃ mc, min 32 ((stop : Int) + 1) = mc := ⟨_, rfl⟩
          have hmc := Lib.hid hmc0
          have HY : Hid (YS w w2 w5 W9 g c mb D D2 stop mc sv (fieldC fF (.slice fa fF.rule.texts.length fcap)) A fF.name) := Lib.hid (by
            have hzw := HI.out.size
            have hz6 := HX6.out.1.size
            have hz5 := HF5.out.2.size
            have hzV := HV.out.2.1.size
            have hz8 := hb8.size
            have hz9 := hab.size
            have hpb := HB.out.2.1.size
            have hD1 := (Array.getElem?_eq_some_iff.1 HB.out.2.2.2.2.2).1
            have hD2' := (Array.getElem?_eq_some_iff.1 HV.out.2.2).1
            have hupo : ∀ k (ob : Obj), W'.heap[k]? = some ob → k < c → W9.heap[k]? = some ob := fun k ob h ha =>
              (hab.block k (by omega)).trans ((hb8.block k (by omega)).trans ((HI.out.block k (by omega)).trans ((HX6.out.1.block k (by omega)).trans ((HF5.out.2.block k (by omega)).trans ((HV.out.2.1.block k ha).trans h)))))
            have hupV : ∀ k (ob : Obj), V.heap[k]? = some ob → k < V.heap.size → W9.heap[k]? = some ob := fun k ob h ha =>
              (hab.block k (by omega)).trans ((hb8.block k (by omega)).trans ((HI.out.block k (by omega)).trans ((HX6.out.1.block k (by omega)).trans ((HF5.out.2.block k ha).trans h))))
            have hbc : Below c W' W9 := HV.out.2.1.trans ((HF5.out.2.trans ((HX6.out.1.trans ((HI.out.trans ((hb8.trans (hab.mono hz8)).mono (by omega))).mono (by omega))).mono (by omega))).mono (by omega))
            have s3 := HS.out.2.1.below HB.out.2.1 HS.out.2.1.lt
            have s4 := HS.out.2.2.1.below HB.out.2.1 HS.out.2.2.1.lt
            refine ⟨hupo _ _ s3 (by have := HS.out.2.1.lt; omega), hupo _ _ s4 (by have := HS.out.2.2.1.lt; omega), hupo _ _ HB.out.1 (by omega), hupo _ _ HB.out.2.2.1 (by omega), hupo _ _ HB.out.2.2.2.1 (by omega), ?_, ?_, rfl, ?_, ?_, ?_, ?_, ?_, ?_, hupo _ _ HB.out.2.2.2.2.2 (by omega), hupV _ _ HV.out.2.2 hD2', by omega, by omega, by omega⟩
            · rw [← hmc0]; exact hupV _ _ HV.out.1 HV.out.1.lt
            · exact (hab.block _ (by omega)).trans ((hb8.block _ (by omega)).trans ((HI.out.block _ (by omega)).trans HX6.out.2))
            · rw [← hmb]; exact hrow
            · rw [← hAA]; rfl
            · have := hrow; rw [← hAA, hmb] at this; exact names_of this
            · exact (strsB_own HB.out.2.2.2.2.1 (by rw [List.length_map])).strs.below (by rw [hc]; exact Nat.le_refl _) hbc
            · exact HS.out.2.2.2.trans ((HB.out.2.1.mono (by have := HS.out.2.2.2.size; exact this)).trans (hbc.mono (by omega)))
            · have := HS.out.2.2.2.size; omega)
          rw [hmb] at hW9
          simp only [zeroN10] at hW9
          have HW9 := Lib.hid hW9
          clear hab hrow hW9 hAA hb8
          gi_wp2_with (first | (refine wpListIn_store_rowW rfl 42 (.tmp 16) (.tmp 98) rfl mb A.toArray rfl rfl 42 zeroN10 (by rw [← hmb]; exact heap_alloc_new w8 _) (by rw [List.size_toArray]; exact n10_size hA10) (by simp [zeroN10, hA10]) (all_oneCell_toArray hA1) ?_; rw [HW9.out]))
          have hmx : Tryz.prog.follows Departure.mixedOrders = true := by kernel_rfl
          have YR := HY
          rw [wpIn_wide]
          by_cases hKt : (findF name).isSome = true
          · have hK := Lib.hid hKt
            rw [hKt]
            refine wp_region_slotsGB (m := 50) [50] hmx (fun i v W => (i = 35 → (StrsB W9.heap.size W v msgL)) ∧ (i ≠ 35 → v = ([.int .i64 32, .slice (some ⟨g, 0, none⟩) 32 32, .int .i64 32, .bool true, .bool true, .int .i64 mc, .int .i64 32, .int .u8 stop, .int .i64 stop, .int .i64 ((stop : Int) + 1), .int .i64 mc, .bool true, .bool true, .bool true, .bool true, sv, .string name, .bool true, .bool true, .bool true, .bool true, .bool true, .bool true, .bool true, .bool true, .bool true, .bool true, .bool true, undef, undef, undef, .bool true, .bool true, .bool true, .slice (some ⟨mb, 1, none⟩) 9 9, undef, .bool true, .bool true, .bool true, .pointer (some ⟨mb, 0, none⟩), .string ⟨#[]⟩, .bool true, .bool true, .bool true, .string name, .int .i64 (numR name : Nat), .string name, .int .i64 (numR name : Nat), .bool true, .bool true] : List Value).getD i undef)) (Below W9.heap.size W9) (by kernel_rfl) (by kernel_rfl) (fun i v W W' h hb => ⟨fun e => (h.1 e).below hb, h.2⟩) ((Below.refl _ _).drew) ?_ ?_
            · refine ⟨?_, ?_, ?_, ?_, ?_, ?_, ?_, ?_, ?_, ?_, ?_, ?_, ?_, ?_, ?_, ?_, ?_, ?_, ?_, ?_, ?_, ?_, ?_, ?_, ?_, ?_, ?_, ?_, ?_, ?_, ?_, ?_, ?_, ?_, ?_, ?_, ?_, ?_, ?_, ?_, ?_, ?_, ?_, ?_, ?_, ?_, ?_, ?_, ?_, ?_, trivial⟩
              · intro ρ vals W hC hd ht hk hg hf
                have e6 := ht 6
                rw [evalS_old (by kernel_rfl)] at e6
                clear ht hd
                have q := (YR.out.r6.below hC YR.out.r6.lt).cell 0
                simp only [List.getElem?_cons_zero] at q
                unfold StepG
                unfold StepOK
                go_simp
                first | exact Below.refl _ _ | exact ⟨⟨fun h => absurd h (by decide), fun _ => rfl⟩, hC, Below.refl _ _⟩
              · intro ρ vals W hC hd ht hk hg hf
                have e5 := ht 5
                rw [evalS_old (by kernel_rfl)] at e5
                clear ht hd
                have q := (YR.out.r5.below hC YR.out.r5.lt).cell 0
                simp only [List.getElem?_cons_zero] at q
                unfold StepG
                unfold StepOK
                go_simp
                first | exact Below.refl _ _ | exact ⟨⟨fun h => absurd h (by decide), fun _ => rfl⟩, hC, Below.refl _ _⟩
              · intro ρ vals W hC hd ht hk hg hf
                have d1 := (hd 1 (by kernel_rfl)).2 (by decide)
                have e100 := ht 100
                rw [evalS_tmp (i := 1) (by kernel_rfl), d1] at e100
                clear ht hd d1
                unfold StepG
                unfold StepOK
                go_simp
                first | exact Below.refl _ _ | exact ⟨⟨fun h => absurd h (by decide), fun _ => rfl⟩, hC, Below.refl _ _⟩
              · intro ρ vals W hC hd ht hk hg hf
                have d0 := (hd 0 (by kernel_rfl)).2 (by decide)
                have e99 := ht 99
                rw [evalS_tmp (i := 0) (by kernel_rfl), d0] at e99
                have d2 := (hd 2 (by kernel_rfl)).2 (by decide)
                have e101 := ht 101
                rw [evalS_tmp (i := 2) (by kernel_rfl), d2] at e101
                clear ht hd d0 d2
                unfold StepG
                unfold StepOK
                go_simp
                first | exact Below.refl _ _ | exact ⟨⟨fun h => absurd h (by decide), fun _ => rfl⟩, hC, Below.refl _ _⟩
              · intro ρ vals W hC hd ht hk hg hf
                have d3 := (hd 3 (by kernel_rfl)).2 (by decide)
                have e102 := ht 102
                rw [evalS_tmp (i := 3) (by kernel_rfl), d3] at e102
                clear ht hd d3
                unfold StepG
                unfold StepOK
                go_simp
                first | exact Below.refl _ _ | exact ⟨⟨fun h => absurd h (by decide), fun _ => rfl⟩, hC, Below.refl _ _⟩
              · intro ρ vals W hC hd ht hk hg hf
                have hgd : vals 4 = .bool true := (hd 4 (by kernel_rfl)).2 (by decide)
                have e10 := ht 10
                rw [evalS_old (by kernel_rfl)] at e10
                clear ht hd
                have q := (YR.out.r10.below hC YR.out.r10.lt).cell 0
                simp only [List.getElem?_cons_zero] at q
                unfold StepG
                refine ⟨fun _ => ?_, fun h => absurd hgd h⟩
                unfold StepOK
                go_simp
                first | exact Below.refl _ _ | exact ⟨⟨fun h => absurd h (by decide), fun _ => rfl⟩, hC, Below.refl _ _⟩
              · intro ρ vals W hC hd ht hk hg hf
                have hgd : vals 4 = .bool true := (hd 4 (by kernel_rfl)).2 (by decide)
                have e6 := ht 6
                rw [evalS_old (by kernel_rfl)] at e6
                clear ht hd
                have q := (YR.out.r6.below hC YR.out.r6.lt).cell 0
                simp only [List.getElem?_cons_zero] at q
                unfold StepG
                refine ⟨fun _ => ?_, fun h => absurd hgd h⟩
                unfold StepOK
                go_simp
                first | exact Below.refl _ _ | exact ⟨⟨fun h => absurd h (by decide), fun _ => rfl⟩, hC, Below.refl _ _⟩
              · intro ρ vals W hC hd ht hk hg hf
                have hgd : vals 4 = .bool true := (hd 4 (by kernel_rfl)).2 (by decide)
                have e3 := ht 3
                rw [evalS_old (by kernel_rfl)] at e3
                clear ht hd
                have q := (YR.out.r3.below hC YR.out.r3.lt).cell 0
                simp only [List.getElem?_cons_zero] at q
                unfold StepG
                refine ⟨fun _ => ?_, fun h => absurd hgd h⟩
                unfold StepOK
                go_simp
                first | exact Below.refl _ _ | exact ⟨⟨fun h => absurd h (by decide), fun _ => rfl⟩, hC, Below.refl _ _⟩
              · intro ρ vals W hC hd ht hk hg hf
                have hgd : vals 4 = .bool true := (hd 4 (by kernel_rfl)).2 (by decide)
                have d7 := (hd 7 (by kernel_rfl)).2 (by decide)
                have e106 := ht 106
                rw [evalS_tmp (i := 7) (by kernel_rfl), d7] at e106
                clear ht hd d7
                have hw2 : IntKind.i64.wrap (stop : Int) = (stop : Int) := IntWalk.i64_in _ (by omega)
                unfold StepG
                refine ⟨fun _ => ?_, fun h => absurd hgd h⟩
                unfold StepOK
                go_simp
                first | exact Below.refl _ _ | exact ⟨⟨fun h => absurd h (by decide), fun _ => rfl⟩, hC, Below.refl _ _⟩
              · intro ρ vals W hC hd ht hk hg hf
                have hgd : vals 4 = .bool true := (hd 4 (by kernel_rfl)).2 (by decide)
                have d8 := (hd 8 (by kernel_rfl)).2 (by decide)
                have e107 := ht 107
                rw [evalS_tmp (i := 8) (by kernel_rfl), d8] at e107
                clear ht hd d8
                have hw3 : IntKind.i64.wrap ((stop : Int) + 1) = (stop : Int) + 1 := IntWalk.i64_in _ (by omega)
                unfold StepG
                refine ⟨fun _ => ?_, fun h => absurd hgd h⟩
                unfold StepOK
                go_simp
                first | exact Below.refl _ _ | exact ⟨⟨fun h => absurd h (by decide), fun _ => rfl⟩, hC, Below.refl _ _⟩
              · intro ρ vals W hC hd ht hk hg hf
                have hgd : vals 4 = .bool true := (hd 4 (by kernel_rfl)).2 (by decide)
                have d6 := (hd 6 (by kernel_rfl)).2 (by decide)
                have e105 := ht 105
                rw [evalS_tmp (i := 6) (by kernel_rfl), d6] at e105
                have d9 := (hd 9 (by kernel_rfl)).2 (by decide)
                have e108 := ht 108
                rw [evalS_tmp (i := 9) (by kernel_rfl), d9] at e108
                clear ht hd d6 d9
                have hmin := min_cut stop
                rw [hmc.out] at hmin
                unfold StepG
                refine ⟨fun _ => ?_, fun h => absurd hgd h⟩
                unfold StepOK
                go_simp
                first | exact Below.refl _ _ | exact ⟨⟨fun h => absurd h (by decide), fun _ => rfl⟩, hC, Below.refl _ _⟩
              · intro ρ vals W hC hd ht hk hg hf
                have hgd : vals 4 = .bool true := (hd 4 (by kernel_rfl)).2 (by decide)
                have d5 := (hd 5 (by kernel_rfl)).2 (by decide)
                have e104 := ht 104
                rw [evalS_tmp (i := 5) (by kernel_rfl), d5] at e104
                have d10 := (hd 10 (by kernel_rfl)).2 (by decide)
                have e109 := ht 109
                rw [evalS_tmp (i := 10) (by kernel_rfl), d10] at e109
                clear ht hd d5 d10
                unfold StepG
                refine ⟨fun _ => ?_, fun h => absurd hgd h⟩
                unfold StepOK
                go_simp
                first | exact Below.refl _ _ | exact ⟨⟨fun h => absurd h (by decide), fun _ => rfl⟩, hC, Below.refl _ _⟩
              · intro ρ vals W hC hd ht hk hg hf
                have d4 := (hd 4 (by kernel_rfl)).2 (by decide)
                have e103 := ht 103
                rw [evalS_tmp (i := 4) (by kernel_rfl), d4] at e103
                have d11 := (hd 11 (by kernel_rfl)).2 (by decide)
                have e110 := ht 110
                rw [evalS_tmp (i := 11) (by kernel_rfl), d11] at e110
                clear ht hd d4 d11
                unfold StepG
                unfold StepOK
                go_simp
                first | exact Below.refl _ _ | exact ⟨⟨fun h => absurd h (by decide), fun _ => rfl⟩, hC, Below.refl _ _⟩
              · intro ρ vals W hC hd ht hk hg hf
                have d12 := (hd 12 (by kernel_rfl)).2 (by decide)
                have e111 := ht 111
                rw [evalS_tmp (i := 12) (by kernel_rfl), d12] at e111
                clear ht hd d12
                unfold StepG
                unfold StepOK
                go_simp
                first | exact Below.refl _ _ | exact ⟨⟨fun h => absurd h (by decide), fun _ => rfl⟩, hC, Below.refl _ _⟩
              · intro ρ vals W hC hd ht hk hg hf
                have hgd : vals 13 = .bool true := (hd 13 (by kernel_rfl)).2 (by decide)
                have e12 := ht 12
                rw [evalS_old (by kernel_rfl)] at e12
                clear ht hd
                unfold StepG
                refine ⟨fun _ => ?_, fun h => absurd hgd h⟩
                unfold StepOK
                go_simp
                first | exact Below.refl _ _ | exact ⟨⟨fun h => absurd h (by decide), fun _ => rfl⟩, hC, Below.refl _ _⟩
              · intro ρ vals W hC hd ht hk hg hf
                have hgd : vals 13 = .bool true := (hd 13 (by kernel_rfl)).2 (by decide)
                have e7 := ht 7
                rw [evalS_old (by kernel_rfl)] at e7
                clear ht hd
                have q := (YR.out.r7.below hC YR.out.r7.lt).cell 0
                simp only [List.getElem?_cons_zero] at q
                unfold StepG
                refine ⟨fun _ => ?_, fun h => absurd hgd h⟩
                unfold StepOK
                go_simp
                first | exact Below.refl _ _ | exact ⟨⟨fun h => absurd h (by decide), fun _ => rfl⟩, hC, Below.refl _ _⟩
              · intro ρ vals W hC hd ht hk hg hf
                have hgd : vals 13 = .bool true := (hd 13 (by kernel_rfl)).2 (by decide)
                have e0 := ht 0
                rw [evalS_old (by kernel_rfl)] at e0
                clear ht hd
                unfold StepG
                refine ⟨fun _ => ?_, fun h => absurd hgd h⟩
                unfold StepOK
                go_simp
                first | exact Below.refl _ _ | exact ⟨⟨fun h => absurd h (by decide), fun _ => rfl⟩, hC, Below.refl _ _⟩
              · intro ρ vals W hC hd ht hk hg hf
                have hgd : vals 13 = .bool true := (hd 13 (by kernel_rfl)).2 (by decide)
                have d15 := (hd 15 (by kernel_rfl)).2 (by decide)
                have e114 := ht 114
                rw [evalS_tmp (i := 15) (by kernel_rfl), d15] at e114
                have d16 := (hd 16 (by kernel_rfl)).2 (by decide)
                have e115 := ht 115
                rw [evalS_tmp (i := 16) (by kernel_rfl), d16] at e115
                clear ht hd d15 d16
                unfold StepG
                refine ⟨fun _ => ?_, fun h => absurd hgd h⟩
                unfold StepOK
                go_simp
                refine (contains_any sv (fullF.map fun x => x.2.name) name W ((YR.out.seen).below (Nat.le_refl _) hC) (by rw [List.length_map, fullF_length]; omega)).mono ?_
                rintro e W2 ⟨rfl, rfl⟩
                exact ⟨_, rfl, by rw [mem_full, hK.out], hC, Below.refl _ _⟩
              · intro ρ vals W hC hd ht hk hg hf
                have hgd : vals 13 = .bool true := (hd 13 (by kernel_rfl)).2 (by decide)
                have d14 := (hd 14 (by kernel_rfl)).2 (by decide)
                have e113 := ht 113
                rw [evalS_tmp (i := 14) (by kernel_rfl), d14] at e113
                have d17 := (hd 17 (by kernel_rfl)).2 (by decide)
                have e116 := ht 116
                rw [evalS_tmp (i := 17) (by kernel_rfl), d17] at e116
                clear ht hd d14 d17
                unfold StepG
                refine ⟨fun _ => ?_, fun h => absurd hgd h⟩
                unfold StepOK
                go_simp
                first | exact Below.refl _ _ | exact ⟨⟨fun h => absurd h (by decide), fun _ => rfl⟩, hC, Below.refl _ _⟩
              · intro ρ vals W hC hd ht hk hg hf
                have d13 := (hd 13 (by kernel_rfl)).2 (by decide)
                have e112 := ht 112
                rw [evalS_tmp (i := 13) (by kernel_rfl), d13] at e112
                have d18 := (hd 18 (by kernel_rfl)).2 (by decide)
                have e117 := ht 117
                rw [evalS_tmp (i := 18) (by kernel_rfl), d18] at e117
                clear ht hd d13 d18
                unfold StepG
                unfold StepOK
                go_simp
                first | exact Below.refl _ _ | exact ⟨⟨fun h => absurd h (by decide), fun _ => rfl⟩, hC, Below.refl _ _⟩
              · intro ρ vals W hC hd ht hk hg hf
                have d19 := (hd 19 (by kernel_rfl)).2 (by decide)
                have e118 := ht 118
                rw [evalS_tmp (i := 19) (by kernel_rfl), d19] at e118
                clear ht hd d19
                unfold StepG
                unfold StepOK
                go_simp
                first | exact Below.refl _ _ | exact ⟨⟨fun h => absurd h (by decide), fun _ => rfl⟩, hC, Below.refl _ _⟩
              · intro ρ vals W hC hd ht hk hg hf
                have hgd : vals 20 = .bool true := (hd 20 (by kernel_rfl)).2 (by decide)
                have e12 := ht 12
                rw [evalS_old (by kernel_rfl)] at e12
                clear ht hd
                unfold StepG
                refine ⟨fun _ => ?_, fun h => absurd hgd h⟩
                unfold StepOK
                go_simp
                first | exact Below.refl _ _ | exact ⟨⟨fun h => absurd h (by decide), fun _ => rfl⟩, hC, Below.refl _ _⟩
              · intro ρ vals W hC hd ht hk hg hf
                have hgd : vals 20 = .bool true := (hd 20 (by kernel_rfl)).2 (by decide)
                have e13 := ht 13
                rw [evalS_old (by kernel_rfl)] at e13
                clear ht hd
                unfold StepG
                refine ⟨fun _ => ?_, fun h => absurd hgd h⟩
                unfold StepOK
                go_simp
                first | exact Below.refl _ _ | exact ⟨⟨fun h => absurd h (by decide), fun _ => rfl⟩, hC, Below.refl _ _⟩
              · intro ρ vals W hC hd ht hk hg hf
                have hgd : vals 20 = .bool true := (hd 20 (by kernel_rfl)).2 (by decide)
                have d21 := (hd 21 (by kernel_rfl)).2 (by decide)
                have e120 := ht 120
                rw [evalS_tmp (i := 21) (by kernel_rfl), d21] at e120
                have d22 := (hd 22 (by kernel_rfl)).2 (by decide)
                have e121 := ht 121
                rw [evalS_tmp (i := 22) (by kernel_rfl), d22] at e121
                clear ht hd d21 d22
                unfold StepG
                refine ⟨fun _ => ?_, fun h => absurd hgd h⟩
                unfold StepOK
                go_simp
                first | exact Below.refl _ _ | exact ⟨⟨fun h => absurd h (by decide), fun _ => rfl⟩, hC, Below.refl _ _⟩
              · intro ρ vals W hC hd ht hk hg hf
                have d20 := (hd 20 (by kernel_rfl)).2 (by decide)
                have e119 := ht 119
                rw [evalS_tmp (i := 20) (by kernel_rfl), d20] at e119
                have d23 := (hd 23 (by kernel_rfl)).2 (by decide)
                have e122 := ht 122
                rw [evalS_tmp (i := 23) (by kernel_rfl), d23] at e122
                clear ht hd d20 d23
                unfold StepG
                unfold StepOK
                go_simp
                first | exact Below.refl _ _ | exact ⟨⟨fun h => absurd h (by decide), fun _ => rfl⟩, hC, Below.refl _ _⟩
              · intro ρ vals W hC hd ht hk hg hf
                have d24 := (hd 24 (by kernel_rfl)).2 (by decide)
                have e123 := ht 123
                rw [evalS_tmp (i := 24) (by kernel_rfl), d24] at e123
                clear ht hd d24
                unfold StepG
                unfold StepOK
                go_simp
                first | exact Below.refl _ _ | exact ⟨⟨fun h => absurd h (by decide), fun _ => rfl⟩, hC, Below.refl _ _⟩
              · intro ρ vals W hC hd ht hk hg hf
                have hgd : vals 25 = .bool true := (hd 25 (by kernel_rfl)).2 (by decide)
                have e12 := ht 12
                rw [evalS_old (by kernel_rfl)] at e12
                clear ht hd
                unfold StepG
                refine ⟨fun _ => ?_, fun h => absurd hgd h⟩
                unfold StepOK
                go_simp
                first | exact Below.refl _ _ | exact ⟨⟨fun h => absurd h (by decide), fun _ => rfl⟩, hC, Below.refl _ _⟩
              · intro ρ vals W hC hd ht hk hg hf
                have hgd : vals 25 = .bool true := (hd 25 (by kernel_rfl)).2 (by decide)
                have d26 := (hd 26 (by kernel_rfl)).2 (by decide)
                have e125 := ht 125
                rw [evalS_tmp (i := 26) (by kernel_rfl), d26] at e125
                clear ht hd d26
                unfold StepG
                refine ⟨fun _ => ?_, fun h => absurd hgd h⟩
                unfold StepOK
                go_simp
                first | exact Below.refl _ _ | exact ⟨⟨fun h => absurd h (by decide), fun _ => rfl⟩, hC, Below.refl _ _⟩
              · intro ρ vals W hC hd ht hk hg hf
                have hgd : vals 27 = .bool true := (hd 27 (by kernel_rfl)).2 (by decide)
                unfold StepG
                exact ⟨fun h => (by rw [hgd] at h; cases h), fun _ => ⟨fun h => absurd h (by decide), fun _ => rfl⟩⟩
              · intro ρ vals W hC hd ht hk hg hf
                have hgd : vals 27 = .bool true := (hd 27 (by kernel_rfl)).2 (by decide)
                unfold StepG
                exact ⟨fun h => (by rw [hgd] at h; cases h), fun _ => ⟨fun h => absurd h (by decide), fun _ => rfl⟩⟩
              · intro ρ vals W hC hd ht hk hg hf
                have hgd : vals 27 = .bool true := (hd 27 (by kernel_rfl)).2 (by decide)
                unfold StepG
                exact ⟨fun h => (by rw [hgd] at h; cases h), fun _ => ⟨fun h => absurd h (by decide), fun _ => rfl⟩⟩
              · intro ρ vals W hC hd ht hk hg hf
                have hgd : vals 25 = .bool true := (hd 25 (by kernel_rfl)).2 (by decide)
                have d27 := (hd 27 (by kernel_rfl)).2 (by decide)
                have e126 := ht 126
                rw [evalS_tmp (i := 27) (by kernel_rfl), d27] at e126
                have d30 := (hd 30 (by kernel_rfl)).2 (by decide)
                have e129 := ht 129
                rw [evalS_tmp (i := 30) (by kernel_rfl), d30] at e129
                clear ht hd d27 d30
                unfold StepG
                refine ⟨fun _ => ?_, fun h => absurd hgd h⟩
                unfold StepOK
                go_simp
                first | exact Below.refl _ _ | exact ⟨⟨fun h => absurd h (by decide), fun _ => rfl⟩, hC, Below.refl _ _⟩
              · intro ρ vals W hC hd ht hk hg hf
                have d25 := (hd 25 (by kernel_rfl)).2 (by decide)
                have e124 := ht 124
                rw [evalS_tmp (i := 25) (by kernel_rfl), d25] at e124
                have d31 := (hd 31 (by kernel_rfl)).2 (by decide)
                have e130 := ht 130
                rw [evalS_tmp (i := 31) (by kernel_rfl), d31] at e130
                clear ht hd d25 d31
                unfold StepG
                unfold StepOK
                go_simp
                first | exact Below.refl _ _ | exact ⟨⟨fun h => absurd h (by decide), fun _ => rfl⟩, hC, Below.refl _ _⟩
              · intro ρ vals W hC hd ht hk hg hf
                have d32 := (hd 32 (by kernel_rfl)).2 (by decide)
                have e131 := ht 131
                rw [evalS_tmp (i := 32) (by kernel_rfl), d32] at e131
                clear ht hd d32
                unfold StepG
                unfold StepOK
                go_simp
                first | exact Below.refl _ _ | exact ⟨⟨fun h => absurd h (by decide), fun _ => rfl⟩, hC, Below.refl _ _⟩
              · intro ρ vals W hC hd ht hk hg hf
                have hgd : vals 33 = .bool true := (hd 33 (by kernel_rfl)).2 (by decide)
                have e16 := ht 16
                rw [evalS_old (by kernel_rfl)] at e16
                clear ht hd
                unfold StepG
                refine ⟨fun _ => ?_, fun h => absurd hgd h⟩
                unfold StepOK
                go_simp
                first | exact Below.refl _ _ | exact ⟨⟨fun h => absurd h (by decide), fun _ => rfl⟩, hC, Below.refl _ _⟩
              · intro ρ vals W hC hd ht hk hg hf
                have hgd : vals 33 = .bool true := (hd 33 (by kernel_rfl)).2 (by decide)
                clear ht hd
                unfold StepG
                refine ⟨fun _ => ?_, fun h => absurd hgd h⟩
                unfold StepOK
                go_simp
                refine (refNames_any W).mono ?_
                rintro e W2 ⟨v, rfl, hs, hb⟩
                exact ⟨_, rfl, StrsB.mono hs (by exact hC.size), hC.trans (hb.mono hC.size), hb⟩
              · intro ρ vals W hC hd ht hk hg hf
                have hgd : vals 33 = .bool true := (hd 33 (by kernel_rfl)).2 (by decide)
                have d34 := (hd 34 (by kernel_rfl)).2 (by decide)
                have e133 := ht 133
                rw [evalS_tmp (i := 34) (by kernel_rfl), d34] at e133
                have h35 := (hd 35 (by kernel_rfl)).1 rfl
                have e134 := ht 134
                rw [evalS_tmp (i := 35) (by kernel_rfl)] at e134
                obtain ⟨nv, hnv⟩ : ∃ nv, vals 35 = nv := ⟨_, rfl⟩
                rw [hnv] at h35 e134
                clear ht hd d34
                unfold StepG
                refine ⟨fun _ => ?_, fun h => absurd hgd h⟩
                unfold StepOK
                go_simp
                refine (Equal_any (.slice (some ⟨mb, 1, none⟩) 9 9) nv msgL msgL W (YR.out.names.below (Nat.le_refl _) hC) h35.strs (by decide) (by decide)).mono ?_
                rintro e W2 ⟨rfl, n, rfl⟩
                exact ⟨_, rfl, by rw [decide_eq_true rfl], below_drewN_c hC n, below_drewN_c (Below.refl _ _) n⟩
              · intro ρ vals W hC hd ht hk hg hf
                have d33 := (hd 33 (by kernel_rfl)).2 (by decide)
                have e132 := ht 132
                rw [evalS_tmp (i := 33) (by kernel_rfl), d33] at e132
                have d36 := (hd 36 (by kernel_rfl)).2 (by decide)
                have e135 := ht 135
                rw [evalS_tmp (i := 36) (by kernel_rfl), d36] at e135
                clear ht hd d33 d36
                unfold StepG
                unfold StepOK
                go_simp
                first | exact Below.refl _ _ | exact ⟨⟨fun h => absurd h (by decide), fun _ => rfl⟩, hC, Below.refl _ _⟩
              · intro ρ vals W hC hd ht hk hg hf
                have d37 := (hd 37 (by kernel_rfl)).2 (by decide)
                have e136 := ht 136
                rw [evalS_tmp (i := 37) (by kernel_rfl), d37] at e136
                clear ht hd d37
                unfold StepG
                unfold StepOK
                go_simp
                first | exact Below.refl _ _ | exact ⟨⟨fun h => absurd h (by decide), fun _ => rfl⟩, hC, Below.refl _ _⟩
              · intro ρ vals W hC hd ht hk hg hf
                have hgd : vals 38 = .bool true := (hd 38 (by kernel_rfl)).2 (by decide)
                have e16 := ht 16
                rw [evalS_old (by kernel_rfl)] at e16
                clear ht hd
                unfold StepG
                refine ⟨fun _ => ?_, fun h => absurd hgd h⟩
                unfold StepOK
                go_simp
                first | exact Below.refl _ _ | exact ⟨⟨fun h => absurd h (by decide), fun _ => rfl⟩, hC, Below.refl _ _⟩
              · intro ρ vals W hC hd ht hk hg hf
                have hgd : vals 38 = .bool true := (hd 38 (by kernel_rfl)).2 (by decide)
                have d39 := (hd 39 (by kernel_rfl)).2 (by decide)
                have e138 := ht 138
                rw [evalS_tmp (i := 39) (by kernel_rfl), d39] at e138
                clear ht hd d39
                have q := (YR.out.rm.below hC YR.out.rm.lt).cell 0
                rw [YR.out.m0] at q
                unfold StepG
                refine ⟨fun _ => ?_, fun h => absurd hgd h⟩
                unfold StepOK
                go_simp
                first | exact Below.refl _ _ | exact ⟨⟨fun h => absurd h (by decide), fun _ => rfl⟩, hC, Below.refl _ _⟩
              · intro ρ vals W hC hd ht hk hg hf
                have hgd : vals 38 = .bool true := (hd 38 (by kernel_rfl)).2 (by decide)
                have d40 := (hd 40 (by kernel_rfl)).2 (by decide)
                have e139 := ht 139
                rw [evalS_tmp (i := 40) (by kernel_rfl), d40] at e139
                clear ht hd d40
                unfold StepG
                refine ⟨fun _ => ?_, fun h => absurd hgd h⟩
                unfold StepOK
                go_simp
                first | exact Below.refl _ _ | exact ⟨⟨fun h => absurd h (by decide), fun _ => rfl⟩, hC, Below.refl _ _⟩
              · intro ρ vals W hC hd ht hk hg hf
                have d38 := (hd 38 (by kernel_rfl)).2 (by decide)
                have e137 := ht 137
                rw [evalS_tmp (i := 38) (by kernel_rfl), d38] at e137
                have d41 := (hd 41 (by kernel_rfl)).2 (by decide)
                have e140 := ht 140
                rw [evalS_tmp (i := 41) (by kernel_rfl), d41] at e140
                clear ht hd d38 d41
                unfold StepG
                unfold StepOK
                go_simp
                first | exact Below.refl _ _ | exact ⟨⟨fun h => absurd h (by decide), fun _ => rfl⟩, hC, Below.refl _ _⟩
              · intro ρ vals W hC hd ht hk hg hf
                have d42 := (hd 42 (by kernel_rfl)).2 (by decide)
                have e141 := ht 141
                rw [evalS_tmp (i := 42) (by kernel_rfl), d42] at e141
                clear ht hd d42
                unfold StepG
                unfold StepOK
                go_simp
                first | exact Below.refl _ _ | exact ⟨⟨fun h => absurd h (by decide), fun _ => rfl⟩, hC, Below.refl _ _⟩
              · intro ρ vals W hC hd ht hk hg hf
                have hgd : vals 43 = .bool true := (hd 43 (by kernel_rfl)).2 (by decide)
                have e0 := ht 0
                rw [evalS_old (by kernel_rfl)] at e0
                clear ht hd
                unfold StepG
                refine ⟨fun _ => ?_, fun h => absurd hgd h⟩
                unfold StepOK
                go_simp
                first | exact Below.refl _ _ | exact ⟨⟨fun h => absurd h (by decide), fun _ => rfl⟩, hC, Below.refl _ _⟩
              · intro ρ vals W hC hd ht hk hg hf
                have hgd : vals 43 = .bool true := (hd 43 (by kernel_rfl)).2 (by decide)
                have d44 := (hd 44 (by kernel_rfl)).2 (by decide)
                have e143 := ht 143
                rw [evalS_tmp (i := 44) (by kernel_rfl), d44] at e143
                clear ht hd d44
                unfold StepG
                refine ⟨fun _ => ?_, fun h => absurd hgd h⟩
                unfold StepOK
                go_simp
                refine (Message_any name W).mono ?_
                rintro e W2 ⟨rfl, hb⟩
                exact ⟨_, rfl, by rw [num_same], hC.trans (hb.mono hC.size), hb⟩
              · intro ρ vals W hC hd ht hk hg hf
                have hgd : vals 43 = .bool true := (hd 43 (by kernel_rfl)).2 (by decide)
                have e0 := ht 0
                rw [evalS_old (by kernel_rfl)] at e0
                clear ht hd
                unfold StepG
                refine ⟨fun _ => ?_, fun h => absurd hgd h⟩
                unfold StepOK
                go_simp
                first | exact Below.refl _ _ | exact ⟨⟨fun h => absurd h (by decide), fun _ => rfl⟩, hC, Below.refl _ _⟩
              · intro ρ vals W hC hd ht hk hg hf
                have hgd : vals 43 = .bool true := (hd 43 (by kernel_rfl)).2 (by decide)
                have d46 := (hd 46 (by kernel_rfl)).2 (by decide)
                have e145 := ht 145
                rw [evalS_tmp (i := 46) (by kernel_rfl), d46] at e145
                clear ht hd d46
                unfold StepG
                refine ⟨fun _ => ?_, fun h => absurd hgd h⟩
                unfold StepOK
                go_simp
                refine (refNumber_any name W).mono ?_
                rintro e W2 ⟨rfl, hb⟩
                exact ⟨_, rfl, rfl, hC.trans (hb.mono hC.size), hb⟩
              · intro ρ vals W hC hd ht hk hg hf
                have hgd : vals 43 = .bool true := (hd 43 (by kernel_rfl)).2 (by decide)
                have d45 := (hd 45 (by kernel_rfl)).2 (by decide)
                have e144 := ht 144
                rw [evalS_tmp (i := 45) (by kernel_rfl), d45] at e144
                have d47 := (hd 47 (by kernel_rfl)).2 (by decide)
                have e146 := ht 146
                rw [evalS_tmp (i := 47) (by kernel_rfl), d47] at e146
                clear ht hd d45 d47
                unfold StepG
                refine ⟨fun _ => ?_, fun h => absurd hgd h⟩
                unfold StepOK
                go_simp
                first | exact Below.refl _ _ | exact ⟨⟨fun h => absurd h (by decide), fun _ => rfl⟩, hC, Below.refl _ _⟩
              · intro ρ vals W hC hd ht hk hg hf
                have d43 := (hd 43 (by kernel_rfl)).2 (by decide)
                have e142 := ht 142
                rw [evalS_tmp (i := 43) (by kernel_rfl), d43] at e142
                have d48 := (hd 48 (by kernel_rfl)).2 (by decide)
                have e147 := ht 147
                rw [evalS_tmp (i := 48) (by kernel_rfl), d48] at e147
                clear ht hd d43 d48
                unfold StepG
                unfold StepOK
                go_simp
                first | exact Below.refl _ _ | exact ⟨⟨fun h => absurd h (by decide), fun _ => rfl⟩, hC, Below.refl _ _⟩
            · intro vals W hC hR
              have r0 : vals 0 = .int .i64 32 := (hR 0 (by omega)).2 (by decide)
              have r1 : vals 1 = .slice (some ⟨g, 0, none⟩) 32 32 := (hR 1 (by omega)).2 (by decide)
              have r2 : vals 2 = .int .i64 32 := (hR 2 (by omega)).2 (by decide)
              have r3 : vals 3 = .bool true := (hR 3 (by omega)).2 (by decide)
              have r4 : vals 4 = .bool true := (hR 4 (by omega)).2 (by decide)
              have r5 : vals 5 = .int .i64 mc := (hR 5 (by omega)).2 (by decide)
              have r6 : vals 6 = .int .i64 32 := (hR 6 (by omega)).2 (by decide)
              have r7 : vals 7 = .int .u8 stop := (hR 7 (by omega)).2 (by decide)
              have r8 : vals 8 = .int .i64 stop := (hR 8 (by omega)).2 (by decide)
              have r9 : vals 9 = .int .i64 ((stop : Int) + 1) := (hR 9 (by omega)).2 (by decide)
              have r10 : vals 10 = .int .i64 mc := (hR 10 (by omega)).2 (by decide)
              have r11 : vals 11 = .bool true := (hR 11 (by omega)).2 (by decide)
              have r12 : vals 12 = .bool true := (hR 12 (by omega)).2 (by decide)
              have r13 : vals 13 = .bool true := (hR 13 (by omega)).2 (by decide)
              have r14 : vals 14 = .bool true := (hR 14 (by omega)).2 (by decide)
              have r15 : vals 15 = sv := (hR 15 (by omega)).2 (by decide)
              have r16 : vals 16 = .string name := (hR 16 (by omega)).2 (by decide)
              have r17 : vals 17 = .bool true := (hR 17 (by omega)).2 (by decide)
              have r18 : vals 18 = .bool true := (hR 18 (by omega)).2 (by decide)
              have r19 : vals 19 = .bool true := (hR 19 (by omega)).2 (by decide)
              have r20 : vals 20 = .bool true := (hR 20 (by omega)).2 (by decide)
              have r21 : vals 21 = .bool true := (hR 21 (by omega)).2 (by decide)
              have r22 : vals 22 = .bool true := (hR 22 (by omega)).2 (by decide)
              have r23 : vals 23 = .bool true := (hR 23 (by omega)).2 (by decide)
              have r24 : vals 24 = .bool true := (hR 24 (by omega)).2 (by decide)
              have r25 : vals 25 = .bool true := (hR 25 (by omega)).2 (by decide)
              have r26 : vals 26 = .bool true := (hR 26 (by omega)).2 (by decide)
              have r27 : vals 27 = .bool true := (hR 27 (by omega)).2 (by decide)
              have r28 : vals 28 = undef := (hR 28 (by omega)).2 (by decide)
              have r29 : vals 29 = undef := (hR 29 (by omega)).2 (by decide)
              have r30 : vals 30 = undef := (hR 30 (by omega)).2 (by decide)
              have r31 : vals 31 = .bool true := (hR 31 (by omega)).2 (by decide)
              have r32 : vals 32 = .bool true := (hR 32 (by omega)).2 (by decide)
              have r33 : vals 33 = .bool true := (hR 33 (by omega)).2 (by decide)
              have r34 : vals 34 = .slice (some ⟨mb, 1, none⟩) 9 9 := (hR 34 (by omega)).2 (by decide)
              have r36 : vals 36 = .bool true := (hR 36 (by omega)).2 (by decide)
              have r37 : vals 37 = .bool true := (hR 37 (by omega)).2 (by decide)
              have r38 : vals 38 = .bool true := (hR 38 (by omega)).2 (by decide)
              have r39 : vals 39 = .pointer (some ⟨mb, 0, none⟩) := (hR 39 (by omega)).2 (by decide)
              have r40 : vals 40 = .string ⟨#[]⟩ := (hR 40 (by omega)).2 (by decide)
              have r41 : vals 41 = .bool true := (hR 41 (by omega)).2 (by decide)
              have r42 : vals 42 = .bool true := (hR 42 (by omega)).2 (by decide)
              have r43 : vals 43 = .bool true := (hR 43 (by omega)).2 (by decide)
              have r44 : vals 44 = .string name := (hR 44 (by omega)).2 (by decide)
              have r45 : vals 45 = .int .i64 (numR name : Nat) := (hR 45 (by omega)).2 (by decide)
              have r46 : vals 46 = .string name := (hR 46 (by omega)).2 (by decide)
              have r47 : vals 47 = .int .i64 (numR name : Nat) := (hR 47 (by omega)).2 (by decide)
              have r48 : vals 48 = .bool true := (hR 48 (by omega)).2 (by decide)
              have r49 : vals 49 = .bool true := (hR 49 (by omega)).2 (by decide)
              clear hR
              obtain ⟨nv, r35⟩ : ∃ nv, vals 35 = nv := ⟨_, rfl⟩
              simp only [List.take, putsS, Act.put, List.setIfInBounds_toArray, List.set_cons_zero, List.set_cons_succ, Nat.reduceAdd, r0, r1, r2, r3, r4, r5, r6, r7, r8, r9, r10, r11, r12, r13, r14, r15, r16, r17, r18, r19, r20, r21, r22, r23, r24, r25, r26, r27, r28, r29, r30, r31, r32, r33, r34, r35, r36, r37, r38, r39, r40, r41, r42, r43, r44, r45, r46, r47, r48, r49]
              clear r0 r1 r2 r3 r4 r5 r6 r7 r8 r9 r10 r11 r12 r13 r14 r15 r16 r17 r18 r19 r20 r21 r22 r23 r24 r25 r26 r27 r28 r29 r30 r31 r32 r33 r34 r35 r36 r37 r38 r39 r40 r41 r42 r43 r44 r45 r46 r47 r48 r49
              have R2 := YR.out.r4.below hC YR.out.r4.lt
              have c8 := R2.cell 0
              have f8 := R2.frozen 0
              have l8 := R2.lt
              simp only [List.getElem?_cons_zero] at c8
              have hr := Lib.hid (R2.set 0 (.bool true))
              have hbb := Lib.hid ((YR.out.be.trans (hC.mono YR.out.sz)).setCell (p := ⟨w.heap.size + 1, 0, none⟩) (by show w.heap.size ≤ w.heap.size + 1; omega) (.bool true))
              have hDD := Lib.hid (And.intro ((Below.heap_setCell W ⟨w.heap.size + 1, 0, none⟩ (.bool true) D (by have := YR.out.dn1; show D ≠ w.heap.size + 1; omega)).trans ((hC.block D (Array.getElem?_eq_some_iff.1 YR.out.d1).1).trans YR.out.d1)) ((Below.heap_setCell W ⟨w.heap.size + 1, 0, none⟩ (.bool true) D2 (by have := YR.out.dn2; show D2 ≠ w.heap.size + 1; omega)).trans ((hC.block D2 (Array.getElem?_eq_some_iff.1 YR.out.d2).1).trans YR.out.d2)))
              clear R2
              refine wpOps_one _ (by rfl) (by rfl) ?_
              go_wp2_with fail
              gi_wp2_with fail
              refine leaves_marks [D2, D] _ (by have := YR.out.dd; simp; omega) (by intro E hE; simp only [List.mem_cons, List.not_mem_nil, or_false] at hE; rcases hE with rfl | rfl; exact hDD.out.2; exact hDD.out.1) fun W10 h1 h2 h3 h4 h5 => ?_
              have hno : ∀ k, k ≤ w.heap.size + 1 → k ∉ [D2, D] := fun k hk hm => by have := YR.out.dn1; have := YR.out.dn2; simp only [List.mem_cons, List.not_mem_nil, or_false] at hm; omega
              exact ⟨_, results_boolC rfl _ _ (w.heap.size + 1) true rfl ((h5 _ (hno _ (Nat.le_refl _))).trans hr.out), rfl, ⟨h1.trans hbb.out.os, h2.trans hbb.out.tape, h3.trans hbb.out.output, by rw [h4]; exact hbb.out.size, fun k hk => (h5 k (hno k (by omega))).trans (hbb.out.block k hk)⟩⟩
          · have hKf : (findF name).isSome = false := by simpa using hKt
            have hK := Lib.hid hKf
            have hnm : Hid (fF.name = ⟨#[]⟩) := Lib.hid (by
              have e : findF name = none := by
                cases h : findF name with
                | none => rfl
                | some x => rw [h] at hKf; cases hKf
              rw [← HFF.out, e]
              rfl)
            rw [hKf]
            refine wp_region_slotsGB (m := 50) [50] hmx (fun i v W => (i = 35 → (StrsB W9.heap.size W v msgL)) ∧ (i ≠ 35 → v = ([.int .i64 32, .slice (some ⟨g, 0, none⟩) 32 32, .int .i64 32, .bool true, .bool true, .int .i64 mc, .int .i64 32, .int .u8 stop, .int .i64 stop, .int .i64 ((stop : Int) + 1), .int .i64 mc, .bool true, .bool true, .bool true, .bool false, sv, .string name, .bool false, .bool true, .bool true, .bool true, .bool false, .bool false, .bool true, .bool true, .bool true, .bool false, .bool false, .pointer (some ⟨w5.heap.size, 0, none⟩), .string ⟨#[]⟩, .bool true, .bool true, .bool true, .bool true, .slice (some ⟨mb, 1, none⟩) 9 9, undef, .bool true, .bool true, .bool true, .pointer (some ⟨mb, 0, none⟩), .string ⟨#[]⟩, .bool true, .bool true, .bool true, .string name, .int .i64 (numR name : Nat), .string name, .int .i64 (numR name : Nat), .bool true, .bool true] : List Value).getD i undef)) (Below W9.heap.size W9) (by kernel_rfl) (by kernel_rfl) (fun i v W W' h hb => ⟨fun e => (h.1 e).below hb, h.2⟩) ((Below.refl _ _).drew) ?_ ?_
            · refine ⟨?_, ?_, ?_, ?_, ?_, ?_, ?_, ?_, ?_, ?_, ?_, ?_, ?_, ?_, ?_, ?_, ?_, ?_, ?_, ?_, ?_, ?_, ?_, ?_, ?_, ?_, ?_, ?_, ?_, ?_, ?_, ?_, ?_, ?_, ?_, ?_, ?_, ?_, ?_, ?_, ?_, ?_, ?_, ?_, ?_, ?_, ?_, ?_, ?_, ?_, trivial⟩
              · intro ρ vals W hC hd ht hk hg hf
                have e6 := ht 6
                rw [evalS_old (by kernel_rfl)] at e6
                clear ht hd
                have q := (YR.out.r6.below hC YR.out.r6.lt).cell 0
                simp only [List.getElem?_cons_zero] at q
                unfold StepG
                unfold StepOK
                go_simp
                first | exact Below.refl _ _ | exact ⟨⟨fun h => absurd h (by decide), fun _ => rfl⟩, hC, Below.refl _ _⟩
              · intro ρ vals W hC hd ht hk hg hf
                have e5 := ht 5
                rw [evalS_old (by kernel_rfl)] at e5
                clear ht hd
                have q := (YR.out.r5.below hC YR.out.r5.lt).cell 0
                simp only [List.getElem?_cons_zero] at q
                unfold StepG
                unfold StepOK
                go_simp
                first | exact Below.refl _ _ | exact ⟨⟨fun h => absurd h (by decide), fun _ => rfl⟩, hC, Below.refl _ _⟩
              · intro ρ vals W hC hd ht hk hg hf
                have d1 := (hd 1 (by kernel_rfl)).2 (by decide)
                have e100 := ht 100
                rw [evalS_tmp (i := 1) (by kernel_rfl), d1] at e100
                clear ht hd d1
                unfold StepG
                unfold StepOK
                go_simp
                first | exact Below.refl _ _ | exact ⟨⟨fun h => absurd h (by decide), fun _ => rfl⟩, hC, Below.refl _ _⟩
              · intro ρ vals W hC hd ht hk hg hf
                have d0 := (hd 0 (by kernel_rfl)).2 (by decide)
                have e99 := ht 99
                rw [evalS_tmp (i := 0) (by kernel_rfl), d0] at e99
                have d2 := (hd 2 (by kernel_rfl)).2 (by decide)
                have e101 := ht 101
                rw [evalS_tmp (i := 2) (by kernel_rfl), d2] at e101
                clear ht hd d0 d2
                unfold StepG
                unfold StepOK
                go_simp
                first | exact Below.refl _ _ | exact ⟨⟨fun h => absurd h (by decide), fun _ => rfl⟩, hC, Below.refl _ _⟩
              · intro ρ vals W hC hd ht hk hg hf
                have d3 := (hd 3 (by kernel_rfl)).2 (by decide)
                have e102 := ht 102
                rw [evalS_tmp (i := 3) (by kernel_rfl), d3] at e102
                clear ht hd d3
                unfold StepG
                unfold StepOK
                go_simp
                first | exact Below.refl _ _ | exact ⟨⟨fun h => absurd h (by decide), fun _ => rfl⟩, hC, Below.refl _ _⟩
              · intro ρ vals W hC hd ht hk hg hf
                have hgd : vals 4 = .bool true := (hd 4 (by kernel_rfl)).2 (by decide)
                have e10 := ht 10
                rw [evalS_old (by kernel_rfl)] at e10
                clear ht hd
                have q := (YR.out.r10.below hC YR.out.r10.lt).cell 0
                simp only [List.getElem?_cons_zero] at q
                unfold StepG
                refine ⟨fun _ => ?_, fun h => absurd hgd h⟩
                unfold StepOK
                go_simp
                first | exact Below.refl _ _ | exact ⟨⟨fun h => absurd h (by decide), fun _ => rfl⟩, hC, Below.refl _ _⟩
              · intro ρ vals W hC hd ht hk hg hf
                have hgd : vals 4 = .bool true := (hd 4 (by kernel_rfl)).2 (by decide)
                have e6 := ht 6
                rw [evalS_old (by kernel_rfl)] at e6
                clear ht hd
                have q := (YR.out.r6.below hC YR.out.r6.lt).cell 0
                simp only [List.getElem?_cons_zero] at q
                unfold StepG
                refine ⟨fun _ => ?_, fun h => absurd hgd h⟩
                unfold StepOK
                go_simp
                first | exact Below.refl _ _ | exact ⟨⟨fun h => absurd h (by decide), fun _ => rfl⟩, hC, Below.refl _ _⟩
              · intro ρ vals W hC hd ht hk hg hf
                have hgd : vals 4 = .bool true := (hd 4 (by kernel_rfl)).2 (by decide)
                have e3 := ht 3
                rw [evalS_old (by kernel_rfl)] at e3
                clear ht hd
                have q := (YR.out.r3.below hC YR.out.r3.lt).cell 0
                simp only [List.getElem?_cons_zero] at q
                unfold StepG
                refine ⟨fun _ => ?_, fun h => absurd hgd h⟩
                unfold StepOK
                go_simp
                first | exact Below.refl _ _ | exact ⟨⟨fun h => absurd h (by decide), fun _ => rfl⟩, hC, Below.refl _ _⟩
              · intro ρ vals W hC hd ht hk hg hf
                have hgd : vals 4 = .bool true := (hd 4 (by kernel_rfl)).2 (by decide)
                have d7 := (hd 7 (by kernel_rfl)).2 (by decide)
                have e106 := ht 106
                rw [evalS_tmp (i := 7) (by kernel_rfl), d7] at e106
                clear ht hd d7
                have hw2 : IntKind.i64.wrap (stop : Int) = (stop : Int) := IntWalk.i64_in _ (by omega)
                unfold StepG
                refine ⟨fun _ => ?_, fun h => absurd hgd h⟩
                unfold StepOK
                go_simp
                first | exact Below.refl _ _ | exact ⟨⟨fun h => absurd h (by decide), fun _ => rfl⟩, hC, Below.refl _ _⟩
              · intro ρ vals W hC hd ht hk hg hf
                have hgd : vals 4 = .bool true := (hd 4 (by kernel_rfl)).2 (by decide)
                have d8 := (hd 8 (by kernel_rfl)).2 (by decide)
                have e107 := ht 107
                rw [evalS_tmp (i := 8) (by kernel_rfl), d8] at e107
                clear ht hd d8
                have hw3 : IntKind.i64.wrap ((stop : Int) + 1) = (stop : Int) + 1 := IntWalk.i64_in _ (by omega)
                unfold StepG
                refine ⟨fun _ => ?_, fun h => absurd hgd h⟩
                unfold StepOK
                go_simp
                first | exact Below.refl _ _ | exact ⟨⟨fun h => absurd h (by decide), fun _ => rfl⟩, hC, Below.refl _ _⟩
              · intro ρ vals W hC hd ht hk hg hf
                have hgd : vals 4 = .bool true := (hd 4 (by kernel_rfl)).2 (by decide)
                have d6 := (hd 6 (by kernel_rfl)).2 (by decide)
                have e105 := ht 105
                rw [evalS_tmp (i := 6) (by kernel_rfl), d6] at e105
                have d9 := (hd 9 (by kernel_rfl)).2 (by decide)
                have e108 := ht 108
                rw [evalS_tmp (i := 9) (by kernel_rfl), d9] at e108
                clear ht hd d6 d9
                have hmin := min_cut stop
                rw [hmc.out] at hmin
                unfold StepG
                refine ⟨fun _ => ?_, fun h => absurd hgd h⟩
                unfold StepOK
                go_simp
                first | exact Below.refl _ _ | exact ⟨⟨fun h => absurd h (by decide), fun _ => rfl⟩, hC, Below.refl _ _⟩
              · intro ρ vals W hC hd ht hk hg hf
                have hgd : vals 4 = .bool true := (hd 4 (by kernel_rfl)).2 (by decide)
                have d5 := (hd 5 (by kernel_rfl)).2 (by decide)
                have e104 := ht 104
                rw [evalS_tmp (i := 5) (by kernel_rfl), d5] at e104
                have d10 := (hd 10 (by kernel_rfl)).2 (by decide)
                have e109 := ht 109
                rw [evalS_tmp (i := 10) (by kernel_rfl), d10] at e109
                clear ht hd d5 d10
                unfold StepG
                refine ⟨fun _ => ?_, fun h => absurd hgd h⟩
                unfold StepOK
                go_simp
                first | exact Below.refl _ _ | exact ⟨⟨fun h => absurd h (by decide), fun _ => rfl⟩, hC, Below.refl _ _⟩
              · intro ρ vals W hC hd ht hk hg hf
                have d4 := (hd 4 (by kernel_rfl)).2 (by decide)
                have e103 := ht 103
                rw [evalS_tmp (i := 4) (by kernel_rfl), d4] at e103
                have d11 := (hd 11 (by kernel_rfl)).2 (by decide)
                have e110 := ht 110
                rw [evalS_tmp (i := 11) (by kernel_rfl), d11] at e110
                clear ht hd d4 d11
                unfold StepG
                unfold StepOK
                go_simp
                first | exact Below.refl _ _ | exact ⟨⟨fun h => absurd h (by decide), fun _ => rfl⟩, hC, Below.refl _ _⟩
              · intro ρ vals W hC hd ht hk hg hf
                have d12 := (hd 12 (by kernel_rfl)).2 (by decide)
                have e111 := ht 111
                rw [evalS_tmp (i := 12) (by kernel_rfl), d12] at e111
                clear ht hd d12
                unfold StepG
                unfold StepOK
                go_simp
                first | exact Below.refl _ _ | exact ⟨⟨fun h => absurd h (by decide), fun _ => rfl⟩, hC, Below.refl _ _⟩
              · intro ρ vals W hC hd ht hk hg hf
                have hgd : vals 13 = .bool true := (hd 13 (by kernel_rfl)).2 (by decide)
                have e12 := ht 12
                rw [evalS_old (by kernel_rfl)] at e12
                clear ht hd
                unfold StepG
                refine ⟨fun _ => ?_, fun h => absurd hgd h⟩
                unfold StepOK
                go_simp
                first | exact Below.refl _ _ | exact ⟨⟨fun h => absurd h (by decide), fun _ => rfl⟩, hC, Below.refl _ _⟩
              · intro ρ vals W hC hd ht hk hg hf
                have hgd : vals 13 = .bool true := (hd 13 (by kernel_rfl)).2 (by decide)
                have e7 := ht 7
                rw [evalS_old (by kernel_rfl)] at e7
                clear ht hd
                have q := (YR.out.r7.below hC YR.out.r7.lt).cell 0
                simp only [List.getElem?_cons_zero] at q
                unfold StepG
                refine ⟨fun _ => ?_, fun h => absurd hgd h⟩
                unfold StepOK
                go_simp
                first | exact Below.refl _ _ | exact ⟨⟨fun h => absurd h (by decide), fun _ => rfl⟩, hC, Below.refl _ _⟩
              · intro ρ vals W hC hd ht hk hg hf
                have hgd : vals 13 = .bool true := (hd 13 (by kernel_rfl)).2 (by decide)
                have e0 := ht 0
                rw [evalS_old (by kernel_rfl)] at e0
                clear ht hd
                unfold StepG
                refine ⟨fun _ => ?_, fun h => absurd hgd h⟩
                unfold StepOK
                go_simp
                first | exact Below.refl _ _ | exact ⟨⟨fun h => absurd h (by decide), fun _ => rfl⟩, hC, Below.refl _ _⟩
              · intro ρ vals W hC hd ht hk hg hf
                have hgd : vals 13 = .bool true := (hd 13 (by kernel_rfl)).2 (by decide)
                have d15 := (hd 15 (by kernel_rfl)).2 (by decide)
                have e114 := ht 114
                rw [evalS_tmp (i := 15) (by kernel_rfl), d15] at e114
                have d16 := (hd 16 (by kernel_rfl)).2 (by decide)
                have e115 := ht 115
                rw [evalS_tmp (i := 16) (by kernel_rfl), d16] at e115
                clear ht hd d15 d16
                unfold StepG
                refine ⟨fun _ => ?_, fun h => absurd hgd h⟩
                unfold StepOK
                go_simp
                refine (contains_any sv (fullF.map fun x => x.2.name) name W ((YR.out.seen).below (Nat.le_refl _) hC) (by rw [List.length_map, fullF_length]; omega)).mono ?_
                rintro e W2 ⟨rfl, rfl⟩
                exact ⟨_, rfl, by rw [mem_full, hK.out], hC, Below.refl _ _⟩
              · intro ρ vals W hC hd ht hk hg hf
                have hgd : vals 13 = .bool true := (hd 13 (by kernel_rfl)).2 (by decide)
                have d14 := (hd 14 (by kernel_rfl)).2 (by decide)
                have e113 := ht 113
                rw [evalS_tmp (i := 14) (by kernel_rfl), d14] at e113
                have d17 := (hd 17 (by kernel_rfl)).2 (by decide)
                have e116 := ht 116
                rw [evalS_tmp (i := 17) (by kernel_rfl), d17] at e116
                clear ht hd d14 d17
                unfold StepG
                refine ⟨fun _ => ?_, fun h => absurd hgd h⟩
                unfold StepOK
                go_simp
                first | exact Below.refl _ _ | exact ⟨⟨fun h => absurd h (by decide), fun _ => rfl⟩, hC, Below.refl _ _⟩
              · intro ρ vals W hC hd ht hk hg hf
                have d13 := (hd 13 (by kernel_rfl)).2 (by decide)
                have e112 := ht 112
                rw [evalS_tmp (i := 13) (by kernel_rfl), d13] at e112
                have d18 := (hd 18 (by kernel_rfl)).2 (by decide)
                have e117 := ht 117
                rw [evalS_tmp (i := 18) (by kernel_rfl), d18] at e117
                clear ht hd d13 d18
                unfold StepG
                unfold StepOK
                go_simp
                first | exact Below.refl _ _ | exact ⟨⟨fun h => absurd h (by decide), fun _ => rfl⟩, hC, Below.refl _ _⟩
              · intro ρ vals W hC hd ht hk hg hf
                have d19 := (hd 19 (by kernel_rfl)).2 (by decide)
                have e118 := ht 118
                rw [evalS_tmp (i := 19) (by kernel_rfl), d19] at e118
                clear ht hd d19
                unfold StepG
                unfold StepOK
                go_simp
                first | exact Below.refl _ _ | exact ⟨⟨fun h => absurd h (by decide), fun _ => rfl⟩, hC, Below.refl _ _⟩
              · intro ρ vals W hC hd ht hk hg hf
                have hgd : vals 20 = .bool true := (hd 20 (by kernel_rfl)).2 (by decide)
                have e12 := ht 12
                rw [evalS_old (by kernel_rfl)] at e12
                clear ht hd
                unfold StepG
                refine ⟨fun _ => ?_, fun h => absurd hgd h⟩
                unfold StepOK
                go_simp
                first | exact Below.refl _ _ | exact ⟨⟨fun h => absurd h (by decide), fun _ => rfl⟩, hC, Below.refl _ _⟩
              · intro ρ vals W hC hd ht hk hg hf
                have hgd : vals 20 = .bool true := (hd 20 (by kernel_rfl)).2 (by decide)
                have e13 := ht 13
                rw [evalS_old (by kernel_rfl)] at e13
                clear ht hd
                unfold StepG
                refine ⟨fun _ => ?_, fun h => absurd hgd h⟩
                unfold StepOK
                go_simp
                first | exact Below.refl _ _ | exact ⟨⟨fun h => absurd h (by decide), fun _ => rfl⟩, hC, Below.refl _ _⟩
              · intro ρ vals W hC hd ht hk hg hf
                have hgd : vals 20 = .bool true := (hd 20 (by kernel_rfl)).2 (by decide)
                have d21 := (hd 21 (by kernel_rfl)).2 (by decide)
                have e120 := ht 120
                rw [evalS_tmp (i := 21) (by kernel_rfl), d21] at e120
                have d22 := (hd 22 (by kernel_rfl)).2 (by decide)
                have e121 := ht 121
                rw [evalS_tmp (i := 22) (by kernel_rfl), d22] at e121
                clear ht hd d21 d22
                unfold StepG
                refine ⟨fun _ => ?_, fun h => absurd hgd h⟩
                unfold StepOK
                go_simp
                first | exact Below.refl _ _ | exact ⟨⟨fun h => absurd h (by decide), fun _ => rfl⟩, hC, Below.refl _ _⟩
              · intro ρ vals W hC hd ht hk hg hf
                have d20 := (hd 20 (by kernel_rfl)).2 (by decide)
                have e119 := ht 119
                rw [evalS_tmp (i := 20) (by kernel_rfl), d20] at e119
                have d23 := (hd 23 (by kernel_rfl)).2 (by decide)
                have e122 := ht 122
                rw [evalS_tmp (i := 23) (by kernel_rfl), d23] at e122
                clear ht hd d20 d23
                unfold StepG
                unfold StepOK
                go_simp
                first | exact Below.refl _ _ | exact ⟨⟨fun h => absurd h (by decide), fun _ => rfl⟩, hC, Below.refl _ _⟩
              · intro ρ vals W hC hd ht hk hg hf
                have d24 := (hd 24 (by kernel_rfl)).2 (by decide)
                have e123 := ht 123
                rw [evalS_tmp (i := 24) (by kernel_rfl), d24] at e123
                clear ht hd d24
                unfold StepG
                unfold StepOK
                go_simp
                first | exact Below.refl _ _ | exact ⟨⟨fun h => absurd h (by decide), fun _ => rfl⟩, hC, Below.refl _ _⟩
              · intro ρ vals W hC hd ht hk hg hf
                have hgd : vals 25 = .bool true := (hd 25 (by kernel_rfl)).2 (by decide)
                have e12 := ht 12
                rw [evalS_old (by kernel_rfl)] at e12
                clear ht hd
                unfold StepG
                refine ⟨fun _ => ?_, fun h => absurd hgd h⟩
                unfold StepOK
                go_simp
                first | exact Below.refl _ _ | exact ⟨⟨fun h => absurd h (by decide), fun _ => rfl⟩, hC, Below.refl _ _⟩
              · intro ρ vals W hC hd ht hk hg hf
                have hgd : vals 25 = .bool true := (hd 25 (by kernel_rfl)).2 (by decide)
                have d26 := (hd 26 (by kernel_rfl)).2 (by decide)
                have e125 := ht 125
                rw [evalS_tmp (i := 26) (by kernel_rfl), d26] at e125
                clear ht hd d26
                unfold StepG
                refine ⟨fun _ => ?_, fun h => absurd hgd h⟩
                unfold StepOK
                go_simp
                first | exact Below.refl _ _ | exact ⟨⟨fun h => absurd h (by decide), fun _ => rfl⟩, hC, Below.refl _ _⟩
              · intro ρ vals W hC hd ht hk hg hf
                have hgd : vals 27 = .bool false := (hd 27 (by kernel_rfl)).2 (by decide)
                have e11 := ht 11
                rw [evalS_old (by kernel_rfl)] at e11
                clear ht hd
                unfold StepG
                refine ⟨fun _ => ?_, fun h => absurd hgd h⟩
                unfold StepOK
                go_simp
                first | exact Below.refl _ _ | exact ⟨⟨fun h => absurd h (by decide), fun _ => rfl⟩, hC, Below.refl _ _⟩
              · intro ρ vals W hC hd ht hk hg hf
                have hgd : vals 27 = .bool false := (hd 27 (by kernel_rfl)).2 (by decide)
                have d28 := (hd 28 (by kernel_rfl)).2 (by decide)
                have e127 := ht 127
                rw [evalS_tmp (i := 28) (by kernel_rfl), d28] at e127
                clear ht hd d28
                have q := (YR.out.r11.below hC YR.out.r11.lt).cell 0
                rw [YR.out.c0, hnm.out] at q
                unfold StepG
                refine ⟨fun _ => ?_, fun h => absurd hgd h⟩
                unfold StepOK
                go_simp
                first | exact Below.refl _ _ | exact ⟨⟨fun h => absurd h (by decide), fun _ => rfl⟩, hC, Below.refl _ _⟩
              · intro ρ vals W hC hd ht hk hg hf
                have hgd : vals 27 = .bool false := (hd 27 (by kernel_rfl)).2 (by decide)
                have d29 := (hd 29 (by kernel_rfl)).2 (by decide)
                have e128 := ht 128
                rw [evalS_tmp (i := 29) (by kernel_rfl), d29] at e128
                clear ht hd d29
                unfold StepG
                refine ⟨fun _ => ?_, fun h => absurd hgd h⟩
                unfold StepOK
                go_simp
                first | exact Below.refl _ _ | exact ⟨⟨fun h => absurd h (by decide), fun _ => rfl⟩, hC, Below.refl _ _⟩
              · intro ρ vals W hC hd ht hk hg hf
                have hgd : vals 25 = .bool true := (hd 25 (by kernel_rfl)).2 (by decide)
                have d27 := (hd 27 (by kernel_rfl)).2 (by decide)
                have e126 := ht 126
                rw [evalS_tmp (i := 27) (by kernel_rfl), d27] at e126
                have d30 := (hd 30 (by kernel_rfl)).2 (by decide)
                have e129 := ht 129
                rw [evalS_tmp (i := 30) (by kernel_rfl), d30] at e129
                clear ht hd d27 d30
                unfold StepG
                refine ⟨fun _ => ?_, fun h => absurd hgd h⟩
                unfold StepOK
                go_simp
                first | exact Below.refl _ _ | exact ⟨⟨fun h => absurd h (by decide), fun _ => rfl⟩, hC, Below.refl _ _⟩
              · intro ρ vals W hC hd ht hk hg hf
                have d25 := (hd 25 (by kernel_rfl)).2 (by decide)
                have e124 := ht 124
                rw [evalS_tmp (i := 25) (by kernel_rfl), d25] at e124
                have d31 := (hd 31 (by kernel_rfl)).2 (by decide)
                have e130 := ht 130
                rw [evalS_tmp (i := 31) (by kernel_rfl), d31] at e130
                clear ht hd d25 d31
                unfold StepG
                unfold StepOK
                go_simp
                first | exact Below.refl _ _ | exact ⟨⟨fun h => absurd h (by decide), fun _ => rfl⟩, hC, Below.refl _ _⟩
              · intro ρ vals W hC hd ht hk hg hf
                have d32 := (hd 32 (by kernel_rfl)).2 (by decide)
                have e131 := ht 131
                rw [evalS_tmp (i := 32) (by kernel_rfl), d32] at e131
                clear ht hd d32
                unfold StepG
                unfold StepOK
                go_simp
                first | exact Below.refl _ _ | exact ⟨⟨fun h => absurd h (by decide), fun _ => rfl⟩, hC, Below.refl _ _⟩
              · intro ρ vals W hC hd ht hk hg hf
                have hgd : vals 33 = .bool true := (hd 33 (by kernel_rfl)).2 (by decide)
                have e16 := ht 16
                rw [evalS_old (by kernel_rfl)] at e16
                clear ht hd
                unfold StepG
                refine ⟨fun _ => ?_, fun h => absurd hgd h⟩
                unfold StepOK
                go_simp
                first | exact Below.refl _ _ | exact ⟨⟨fun h => absurd h (by decide), fun _ => rfl⟩, hC, Below.refl _ _⟩
              · intro ρ vals W hC hd ht hk hg hf
                have hgd : vals 33 = .bool true := (hd 33 (by kernel_rfl)).2 (by decide)
                clear ht hd
                unfold StepG
                refine ⟨fun _ => ?_, fun h => absurd hgd h⟩
                unfold StepOK
                go_simp
                refine (refNames_any W).mono ?_
                rintro e W2 ⟨v, rfl, hs, hb⟩
                exact ⟨_, rfl, StrsB.mono hs (by exact hC.size), hC.trans (hb.mono hC.size), hb⟩
              · intro ρ vals W hC hd ht hk hg hf
                have hgd : vals 33 = .bool true := (hd 33 (by kernel_rfl)).2 (by decide)
                have d34 := (hd 34 (by kernel_rfl)).2 (by decide)
                have e133 := ht 133
                rw [evalS_tmp (i := 34) (by kernel_rfl), d34] at e133
                have h35 := (hd 35 (by kernel_rfl)).1 rfl
                have e134 := ht 134
                rw [evalS_tmp (i := 35) (by kernel_rfl)] at e134
                obtain ⟨nv, hnv⟩ : ∃ nv, vals 35 = nv := ⟨_, rfl⟩
                rw [hnv] at h35 e134
                clear ht hd d34
                unfold StepG
                refine ⟨fun _ => ?_, fun h => absurd hgd h⟩
                unfold StepOK
                go_simp
                refine (Equal_any (.slice (some ⟨mb, 1, none⟩) 9 9) nv msgL msgL W (YR.out.names.below (Nat.le_refl _) hC) h35.strs (by decide) (by decide)).mono ?_
                rintro e W2 ⟨rfl, n, rfl⟩
                exact ⟨_, rfl, by rw [decide_eq_true rfl], below_drewN_c hC n, below_drewN_c (Below.refl _ _) n⟩
              · intro ρ vals W hC hd ht hk hg hf
                have d33 := (hd 33 (by kernel_rfl)).2 (by decide)
                have e132 := ht 132
                rw [evalS_tmp (i := 33) (by kernel_rfl), d33] at e132
                have d36 := (hd 36 (by kernel_rfl)).2 (by decide)
                have e135 := ht 135
                rw [evalS_tmp (i := 36) (by kernel_rfl), d36] at e135
                clear ht hd d33 d36
                unfold StepG
                unfold StepOK
                go_simp
                first | exact Below.refl _ _ | exact ⟨⟨fun h => absurd h (by decide), fun _ => rfl⟩, hC, Below.refl _ _⟩
              · intro ρ vals W hC hd ht hk hg hf
                have d37 := (hd 37 (by kernel_rfl)).2 (by decide)
                have e136 := ht 136
                rw [evalS_tmp (i := 37) (by kernel_rfl), d37] at e136
                clear ht hd d37
                unfold StepG
                unfold StepOK
                go_simp
                first | exact Below.refl _ _ | exact ⟨⟨fun h => absurd h (by decide), fun _ => rfl⟩, hC, Below.refl _ _⟩
              · intro ρ vals W hC hd ht hk hg hf
                have hgd : vals 38 = .bool true := (hd 38 (by kernel_rfl)).2 (by decide)
                have e16 := ht 16
                rw [evalS_old (by kernel_rfl)] at e16
                clear ht hd
                unfold StepG
                refine ⟨fun _ => ?_, fun h => absurd hgd h⟩
                unfold StepOK
                go_simp
                first | exact Below.refl _ _ | exact ⟨⟨fun h => absurd h (by decide), fun _ => rfl⟩, hC, Below.refl _ _⟩
              · intro ρ vals W hC hd ht hk hg hf
                have hgd : vals 38 = .bool true := (hd 38 (by kernel_rfl)).2 (by decide)
                have d39 := (hd 39 (by kernel_rfl)).2 (by decide)
                have e138 := ht 138
                rw [evalS_tmp (i := 39) (by kernel_rfl), d39] at e138
                clear ht hd d39
                have q := (YR.out.rm.below hC YR.out.rm.lt).cell 0
                rw [YR.out.m0] at q
                unfold StepG
                refine ⟨fun _ => ?_, fun h => absurd hgd h⟩
                unfold StepOK
                go_simp
                first | exact Below.refl _ _ | exact ⟨⟨fun h => absurd h (by decide), fun _ => rfl⟩, hC, Below.refl _ _⟩
              · intro ρ vals W hC hd ht hk hg hf
                have hgd : vals 38 = .bool true := (hd 38 (by kernel_rfl)).2 (by decide)
                have d40 := (hd 40 (by kernel_rfl)).2 (by decide)
                have e139 := ht 139
                rw [evalS_tmp (i := 40) (by kernel_rfl), d40] at e139
                clear ht hd d40
                unfold StepG
                refine ⟨fun _ => ?_, fun h => absurd hgd h⟩
                unfold StepOK
                go_simp
                first | exact Below.refl _ _ | exact ⟨⟨fun h => absurd h (by decide), fun _ => rfl⟩, hC, Below.refl _ _⟩
              · intro ρ vals W hC hd ht hk hg hf
                have d38 := (hd 38 (by kernel_rfl)).2 (by decide)
                have e137 := ht 137
                rw [evalS_tmp (i := 38) (by kernel_rfl), d38] at e137
                have d41 := (hd 41 (by kernel_rfl)).2 (by decide)
                have e140 := ht 140
                rw [evalS_tmp (i := 41) (by kernel_rfl), d41] at e140
                clear ht hd d38 d41
                unfold StepG
                unfold StepOK
                go_simp
                first | exact Below.refl _ _ | exact ⟨⟨fun h => absurd h (by decide), fun _ => rfl⟩, hC, Below.refl _ _⟩
              · intro ρ vals W hC hd ht hk hg hf
                have d42 := (hd 42 (by kernel_rfl)).2 (by decide)
                have e141 := ht 141
                rw [evalS_tmp (i := 42) (by kernel_rfl), d42] at e141
                clear ht hd d42
                unfold StepG
                unfold StepOK
                go_simp
                first | exact Below.refl _ _ | exact ⟨⟨fun h => absurd h (by decide), fun _ => rfl⟩, hC, Below.refl _ _⟩
              · intro ρ vals W hC hd ht hk hg hf
                have hgd : vals 43 = .bool true := (hd 43 (by kernel_rfl)).2 (by decide)
                have e0 := ht 0
                rw [evalS_old (by kernel_rfl)] at e0
                clear ht hd
                unfold StepG
                refine ⟨fun _ => ?_, fun h => absurd hgd h⟩
                unfold StepOK
                go_simp
                first | exact Below.refl _ _ | exact ⟨⟨fun h => absurd h (by decide), fun _ => rfl⟩, hC, Below.refl _ _⟩
              · intro ρ vals W hC hd ht hk hg hf
                have hgd : vals 43 = .bool true := (hd 43 (by kernel_rfl)).2 (by decide)
                have d44 := (hd 44 (by kernel_rfl)).2 (by decide)
                have e143 := ht 143
                rw [evalS_tmp (i := 44) (by kernel_rfl), d44] at e143
                clear ht hd d44
                unfold StepG
                refine ⟨fun _ => ?_, fun h => absurd hgd h⟩
                unfold StepOK
                go_simp
                refine (Message_any name W).mono ?_
                rintro e W2 ⟨rfl, hb⟩
                exact ⟨_, rfl, by rw [num_same], hC.trans (hb.mono hC.size), hb⟩
              · intro ρ vals W hC hd ht hk hg hf
                have hgd : vals 43 = .bool true := (hd 43 (by kernel_rfl)).2 (by decide)
                have e0 := ht 0
                rw [evalS_old (by kernel_rfl)] at e0
                clear ht hd
                unfold StepG
                refine ⟨fun _ => ?_, fun h => absurd hgd h⟩
                unfold StepOK
                go_simp
                first | exact Below.refl _ _ | exact ⟨⟨fun h => absurd h (by decide), fun _ => rfl⟩, hC, Below.refl _ _⟩
              · intro ρ vals W hC hd ht hk hg hf
                have hgd : vals 43 = .bool true := (hd 43 (by kernel_rfl)).2 (by decide)
                have d46 := (hd 46 (by kernel_rfl)).2 (by decide)
                have e145 := ht 145
                rw [evalS_tmp (i := 46) (by kernel_rfl), d46] at e145
                clear ht hd d46
                unfold StepG
                refine ⟨fun _ => ?_, fun h => absurd hgd h⟩
                unfold StepOK
                go_simp
                refine (refNumber_any name W).mono ?_
                rintro e W2 ⟨rfl, hb⟩
                exact ⟨_, rfl, rfl, hC.trans (hb.mono hC.size), hb⟩
              · intro ρ vals W hC hd ht hk hg hf
                have hgd : vals 43 = .bool true := (hd 43 (by kernel_rfl)).2 (by decide)
                have d45 := (hd 45 (by kernel_rfl)).2 (by decide)
                have e144 := ht 144
                rw [evalS_tmp (i := 45) (by kernel_rfl), d45] at e144
                have d47 := (hd 47 (by kernel_rfl)).2 (by decide)
                have e146 := ht 146
                rw [evalS_tmp (i := 47) (by kernel_rfl), d47] at e146
                clear ht hd d45 d47
                unfold StepG
                refine ⟨fun _ => ?_, fun h => absurd hgd h⟩
                unfold StepOK
                go_simp
                first | exact Below.refl _ _ | exact ⟨⟨fun h => absurd h (by decide), fun _ => rfl⟩, hC, Below.refl _ _⟩
              · intro ρ vals W hC hd ht hk hg hf
                have d43 := (hd 43 (by kernel_rfl)).2 (by decide)
                have e142 := ht 142
                rw [evalS_tmp (i := 43) (by kernel_rfl), d43] at e142
                have d48 := (hd 48 (by kernel_rfl)).2 (by decide)
                have e147 := ht 147
                rw [evalS_tmp (i := 48) (by kernel_rfl), d48] at e147
                clear ht hd d43 d48
                unfold StepG
                unfold StepOK
                go_simp
                first | exact Below.refl _ _ | exact ⟨⟨fun h => absurd h (by decide), fun _ => rfl⟩, hC, Below.refl _ _⟩
            · intro vals W hC hR
              have r0 : vals 0 = .int .i64 32 := (hR 0 (by omega)).2 (by decide)
              have r1 : vals 1 = .slice (some ⟨g, 0, none⟩) 32 32 := (hR 1 (by omega)).2 (by decide)
              have r2 : vals 2 = .int .i64 32 := (hR 2 (by omega)).2 (by decide)
              have r3 : vals 3 = .bool true := (hR 3 (by omega)).2 (by decide)
              have r4 : vals 4 = .bool true := (hR 4 (by omega)).2 (by decide)
              have r5 : vals 5 = .int .i64 mc := (hR 5 (by omega)).2 (by decide)
              have r6 : vals 6 = .int .i64 32 := (hR 6 (by omega)).2 (by decide)
              have r7 : vals 7 = .int .u8 stop := (hR 7 (by omega)).2 (by decide)
              have r8 : vals 8 = .int .i64 stop := (hR 8 (by omega)).2 (by decide)
              have r9 : vals 9 = .int .i64 ((stop : Int) + 1) := (hR 9 (by omega)).2 (by decide)
              have r10 : vals 10 = .int .i64 mc := (hR 10 (by omega)).2 (by decide)
              have r11 : vals 11 = .bool true := (hR 11 (by omega)).2 (by decide)
              have r12 : vals 12 = .bool true := (hR 12 (by omega)).2 (by decide)
              have r13 : vals 13 = .bool true := (hR 13 (by omega)).2 (by decide)
              have r14 : vals 14 = .bool false := (hR 14 (by omega)).2 (by decide)
              have r15 : vals 15 = sv := (hR 15 (by omega)).2 (by decide)
              have r16 : vals 16 = .string name := (hR 16 (by omega)).2 (by decide)
              have r17 : vals 17 = .bool false := (hR 17 (by omega)).2 (by decide)
              have r18 : vals 18 = .bool true := (hR 18 (by omega)).2 (by decide)
              have r19 : vals 19 = .bool true := (hR 19 (by omega)).2 (by decide)
              have r20 : vals 20 = .bool true := (hR 20 (by omega)).2 (by decide)
              have r21 : vals 21 = .bool false := (hR 21 (by omega)).2 (by decide)
              have r22 : vals 22 = .bool false := (hR 22 (by omega)).2 (by decide)
              have r23 : vals 23 = .bool true := (hR 23 (by omega)).2 (by decide)
              have r24 : vals 24 = .bool true := (hR 24 (by omega)).2 (by decide)
              have r25 : vals 25 = .bool true := (hR 25 (by omega)).2 (by decide)
              have r26 : vals 26 = .bool false := (hR 26 (by omega)).2 (by decide)
              have r27 : vals 27 = .bool false := (hR 27 (by omega)).2 (by decide)
              have r28 : vals 28 = .pointer (some ⟨w5.heap.size, 0, none⟩) := (hR 28 (by omega)).2 (by decide)
              have r29 : vals 29 = .string ⟨#[]⟩ := (hR 29 (by omega)).2 (by decide)
              have r30 : vals 30 = .bool true := (hR 30 (by omega)).2 (by decide)
              have r31 : vals 31 = .bool true := (hR 31 (by omega)).2 (by decide)
              have r32 : vals 32 = .bool true := (hR 32 (by omega)).2 (by decide)
              have r33 : vals 33 = .bool true := (hR 33 (by omega)).2 (by decide)
              have r34 : vals 34 = .slice (some ⟨mb, 1, none⟩) 9 9 := (hR 34 (by omega)).2 (by decide)
              have r36 : vals 36 = .bool true := (hR 36 (by omega)).2 (by decide)
              have r37 : vals 37 = .bool true := (hR 37 (by omega)).2 (by decide)
              have r38 : vals 38 = .bool true := (hR 38 (by omega)).2 (by decide)
              have r39 : vals 39 = .pointer (some ⟨mb, 0, none⟩) := (hR 39 (by omega)).2 (by decide)
              have r40 : vals 40 = .string ⟨#[]⟩ := (hR 40 (by omega)).2 (by decide)
              have r41 : vals 41 = .bool true := (hR 41 (by omega)).2 (by decide)
              have r42 : vals 42 = .bool true := (hR 42 (by omega)).2 (by decide)
              have r43 : vals 43 = .bool true := (hR 43 (by omega)).2 (by decide)
              have r44 : vals 44 = .string name := (hR 44 (by omega)).2 (by decide)
              have r45 : vals 45 = .int .i64 (numR name : Nat) := (hR 45 (by omega)).2 (by decide)
              have r46 : vals 46 = .string name := (hR 46 (by omega)).2 (by decide)
              have r47 : vals 47 = .int .i64 (numR name : Nat) := (hR 47 (by omega)).2 (by decide)
              have r48 : vals 48 = .bool true := (hR 48 (by omega)).2 (by decide)
              have r49 : vals 49 = .bool true := (hR 49 (by omega)).2 (by decide)
              clear hR
              obtain ⟨nv, r35⟩ : ∃ nv, vals 35 = nv := ⟨_, rfl⟩
              simp only [List.take, putsS, Act.put, List.setIfInBounds_toArray, List.set_cons_zero, List.set_cons_succ, Nat.reduceAdd, r0, r1, r2, r3, r4, r5, r6, r7, r8, r9, r10, r11, r12, r13, r14, r15, r16, r17, r18, r19, r20, r21, r22, r23, r24, r25, r26, r27, r28, r29, r30, r31, r32, r33, r34, r35, r36, r37, r38, r39, r40, r41, r42, r43, r44, r45, r46, r47, r48, r49]
              clear r0 r1 r2 r3 r4 r5 r6 r7 r8 r9 r10 r11 r12 r13 r14 r15 r16 r17 r18 r19 r20 r21 r22 r23 r24 r25 r26 r27 r28 r29 r30 r31 r32 r33 r34 r35 r36 r37 r38 r39 r40 r41 r42 r43 r44 r45 r46 r47 r48 r49
              have R2 := YR.out.r4.below hC YR.out.r4.lt
              have c8 := R2.cell 0
              have f8 := R2.frozen 0
              have l8 := R2.lt
              simp only [List.getElem?_cons_zero] at c8
              have hr := Lib.hid (R2.set 0 (.bool true))
              have hbb := Lib.hid ((YR.out.be.trans (hC.mono YR.out.sz)).setCell (p := ⟨w.heap.size + 1, 0, none⟩) (by show w.heap.size ≤ w.heap.size + 1; omega) (.bool true))
              have hDD := Lib.hid (And.intro ((Below.heap_setCell W ⟨w.heap.size + 1, 0, none⟩ (.bool true) D (by have := YR.out.dn1; show D ≠ w.heap.size + 1; omega)).trans ((hC.block D (Array.getElem?_eq_some_iff.1 YR.out.d1).1).trans YR.out.d1)) ((Below.heap_setCell W ⟨w.heap.size + 1, 0, none⟩ (.bool true) D2 (by have := YR.out.dn2; show D2 ≠ w.heap.size + 1; omega)).trans ((hC.block D2 (Array.getElem?_eq_some_iff.1 YR.out.d2).1).trans YR.out.d2)))
              clear R2
              refine wpOps_one _ (by rfl) (by rfl) ?_
              go_wp2_with fail
              gi_wp2_with fail
              refine leaves_marks [D2, D] _ (by have := YR.out.dd; simp; omega) (by intro E hE; simp only [List.mem_cons, List.not_mem_nil, or_false] at hE; rcases hE with rfl | rfl; exact hDD.out.2; exact hDD.out.1) fun W10 h1 h2 h3 h4 h5 => ?_
              have hno : ∀ k, k ≤ w.heap.size + 1 → k ∉ [D2, D] := fun k hk hm => by have := YR.out.dn1; have := YR.out.dn2; simp only [List.mem_cons, List.not_mem_nil, or_false] at hm; omega
              exact ⟨_, results_boolC rfl _ _ (w.heap.size + 1) true rfl ((h5 _ (hno _ (Nat.le_refl _))).trans hr.out), rfl, ⟨h1.trans hbb.out.os, h2.trans hbb.out.tape, h3.trans hbb.out.output, by rw [h4]; exact hbb.out.size, fun k hk => (h5 k (hno k (by omega))).trans (hbb.out.block k hk)⟩⟩
    case stop2 =>
      rintro D2 cd pre V hD2 hpre ⟨rfl, hs32, v6, vb⟩ hK2
      have hcv : (min 32 ((stop : Int) + 1)) = (stop : Int) + 1 := by omega
      rw [← hcv] at v6
      have HV := Lib.hid (And.intro v6 (And.intro vb hK2))
      clear v6 vb hK2 hcv hpre
      gi_wp2_with fail
      refine ⟨trivial, (callsIn_wide.2 (Find_any name _)).mono ?_⟩
      rintro e w5 ⟨vf, rfl, hsf, hb5⟩
      generalize hfF : (findF name).getD fd0 = fF at hsf ⊢
      have HFF := Lib.hid hfF
      clear hfF
      obtain ⟨fa, fcap, rfl⟩ := hsf.form
      have HF5 := Lib.hid (And.intro hsf hb5)
      clear hsf hb5
      have hlc : w2.heap.size < c := by have := HB.out.1.lt; omega
      have hvz : c ≤ V.heap.size := Nat.le_trans (Nat.le_of_eq hc.symm) HV.out.2.1.size
      have x5 := (HB.out.1.below HV.out.2.1 (by omega)).below HF5.out.2 (by omega)
      have d5 := x5.cell 0
      simp only [List.getElem?_cons_zero] at d5
      have h5z := HF5.out.2.size
      have hlt5 : w2.heap.size < w5.heap.size := by omega
      clear x5
      simp only [fieldC]
      gi_wp2_with fail
      have xb : Below w5.heap.size w5 (w5.alloc (.cells #[.string fF.name, .int .i64 fF.rule.kind, .int .i64 fF.rule.least, .int .i64 fF.rule.most, .slice fa fF.rule.texts.length fcap, .string fF.inn] 32)) := (Below.refl _ _).alloc (Nat.le_refl _) _
      have xr := Row.new w5 32 (fieldC fF (.slice fa fF.rule.texts.length fcap))
      change Row (w5.alloc (.cells #[.string fF.name, .int .i64 fF.rule.kind, .int .i64 fF.rule.least, .int .i64 fF.rule.most, .slice fa fF.rule.texts.length fcap, .string fF.inn] 32)) w5.heap.size 32 (fieldC fF (.slice fa fF.rule.texts.length fcap)) at xr
      have xz : (w5.alloc (.cells #[.string fF.name, .int .i64 fF.rule.kind, .int .i64 fF.rule.least, .int .i64 fF.rule.most, .slice fa fF.rule.texts.length fcap, .string fF.inn] 32)).heap.size = w5.heap.size + 1 := by simp
      generalize (w5.alloc (.cells #[.string fF.name, .int .i64 fF.rule.kind, .int .i64 fF.rule.least, .int .i64 fF.rule.most, .slice fa fF.rule.texts.length fcap, .string fF.inn] 32)) = w6 at xb xr xz ⊢
      have HX6 := Lib.hid (And.intro xb xr)
      clear xb xr
      gi_loopw [86, 13] (fun x y wr => ∃ k : Nat, x = .int .i64 k ∧ k ≤ 32 ∧ y = .bool (memS name ((tblF.take k).map (·.name))) ∧ Hid (Below w6.heap.size w6 wr)) (fun x _ _ => 32 - (intOf x).toNat)
      case atStart => exact ⟨0, by go_num, by omega, rfl, Lib.hid (Below.refl _ _)⟩
      case round =>
        obtain ⟨k, rfl, hk, rfl, HI⟩ := hrel
        by_cases hlt : k < 32
        · have hltI : (k : Int) < 32 := by omega
          have TT := ((((HS.out.1.below HB.out.2.1).below (by rw [hc]; exact HV.out.2.1)).below HF5.out.2).below HX6.out.1).below HI.out
          obtain ⟨v2, hc2, hs2⟩ := rtab_at TT k hlt
          have hfn := find_own_name k hlt
          have hmt := mem_take name k hlt
          have htl := (chk_all k hlt).2
          clear TT
          generalize tblF.getD k fd0 = fk at hc2 hs2 hfn hmt htl
          obtain ⟨a2, cap2, rfl⟩ := hs2.form
          have j0 := hc2 0 (by omega)
          have j1 := hc2 1 (by omega)
          have j2 := hc2 2 (by omega)
          have j3 := hc2 3 (by omega)
          have j4 := hc2 4 (by omega)
          have j5 := hc2 5 (by omega)
          simp only [fieldC2, List.getElem?_cons_zero, List.getElem?_cons_succ, Nat.add_zero] at j0 j1 j2 j3 j4 j5
          have HS2 := Lib.hid (And.intro hs2 htl)
          have HM := Lib.hid hmt
          clear hc2 hs2 hmt htl
          have HA := Lib.hid (HI.out.trans (((Below.refl wr.heap.size wr).alloc (Nat.le_refl _) (.cells (fieldC2 fk (.slice a2 fk.rule.texts.length cap2)).toArray 36)).mono HI.out.size))
          by_cases hn : fk.name = name
          · have heq : (fk.name.toList == name.toList) = true := by rw [hn]; simp
            have hyr := HX6.out.2.below HI.out HX6.out.2.lt
            have hiz := HI.out.size
            have hlw : w5.heap.size < wr.heap.size := by omega
            have m0 := hyr.cell 0
            have m1 := hyr.cell 1
            have m2 := hyr.cell 2
            have m3 := hyr.cell 3
            have m4 := hyr.cell 4
            have m5 := hyr.cell 5
            simp only [fieldC, List.getElem?_cons_zero, List.getElem?_cons_succ] at m0 m1 m2 m3 m4 m5
            have HN := Lib.hid (And.intro hn hfn)
            clear hyr hn hfn
            gi_wp2_with fail
            obtain ⟨hn', hfn'⟩ := HN.out
            have e : fF = fk := by rw [← HFF.out, ← hn', hfn']; rfl
            subst e
            have hab : Below wr.heap.size wr (wr.alloc (.cells (fieldC2 fF (.slice a2 fF.rule.texts.length cap2)).toArray 36)) := (Below.refl _ _).alloc (Nat.le_refl _) _
            refine ⟨trivial, (callsIn_wide.2 (same_any fF (.slice fa fF.rule.texts.length fcap) (.slice a2 fF.rule.texts.length cap2) _ ((((HF5.out.1.below HX6.out.1).below HI.out).below hab).strs) ((HS2.out.1.below hab).strs) HS2.out.2)).mono ?_⟩
            rintro e w7 ⟨rfl, hb7⟩
            have HA7 := Lib.hid (HA.out.trans (hb7.mono HA.out.size))
            have HN' := Lib.hid hn'
            clear hb7 hab hn' hfn' m0 m1 m2 m3 m4 m5 j0 j1 j2 j3 j4 j5 HN
            gi_wp2
            go_roundw
            case rel => exact ⟨k + 1, by go_num, by omega, by rw [HM.out, decide_eq_true HN'.out, Bool.or_true], HA7⟩
            case measure => simp [intOf]; omega
          · have hneq := str_neC hn
            have HN := Lib.hid hn
            clear hn hfn
            gi_wp2
            go_roundw
            case rel => exact ⟨k + 1, by go_num, by omega, by rw [HM.out, decide_eq_false HN.out, Bool.or_false], HA⟩
            case measure => simp [intOf]; omega
        · have hgeI : ¬ (k : Int) < 32 := by omega
          have hk32 : k = 32 := by omega
          subst hk32
          gi_wp2_with fail
          rw [mem_tbl]
          have HMS : Hid (∀ W : World, CallsIn Fence.wide 19 Tryz.prog 12 #[] W fun e w' => e = .returned (.agg (msgsL.map Value.string).toArray) ∧ Below W.heap.size W w') := Lib.hid fun W => by
            have h := callsIn_wide (n := 19).2 (Messages_any W)
            rwa [msgsV_is] at h
          gi_wp2_with fail
          refine ⟨trivial, (HMS.out _).mono ?_⟩
          rintro e w8 ⟨rfl, hb8⟩
          have hA10 : (msgsL.map Value.string).length = 10 := rfl
          have hA1 : ∀ v ∈ msgsL.map Value.string, v.oneCell' = true := fun v hv => by
            obtain ⟨c, _, rfl⟩ := List.mem_map.1 hv
            rfl
          obtain ⟨A, hAA⟩ : ∃ A, msgsL.map Value.string = A := ⟨_, rfl⟩
          rw [hAA] at hA10 hA1 ⊢
          obtain ⟨W9, hW9⟩ : ∃ W9, (w8.alloc (.cells zeroN10 42)).setRow w8.heap.size A.toArray = W9 := ⟨_, rfl⟩
          have hab : Below w8.heap.size w8 W9 := by rw [← hW9]; exact below_setRow (B := w8.heap.size) ((Below.refl _ _).alloc (Nat.le_refl _) _) (Nat.le_refl _) _
          have hrow : Row W9 w8.heap.size 42 A := by rw [← hW9]; exact setRow_heap _ _ zeroN10 _ _ (0, 0) (heap_alloc_new w8 _)
          obtain ⟨mb, hmb⟩ : ∃ mb, w8.heap.size = mb := ⟨_, rfl⟩
          obtain ⟨mc, hmc0⟩ : ∃ mc, min 32 ((stop : Int) + 1) = mc := ⟨_, rfl⟩
          have hmc := Lib.hid hmc0
          have HY : Hid (YS w w2 w5 W9 g c mb D D2 stop mc sv (fieldC fF (.slice fa fF.rule.texts.length fcap)) A fF.name) := Lib.hid (by
            have hzw := HI.out.size
            have hz6 := HX6.out.1.size
            have hz5 := HF5.out.2.size
            have hzV := HV.out.2.1.size
            have hz8 := hb8.size
            have hz9 := hab.size
            have hpb := HB.out.2.1.size
            have hD1 := (Array.getElem?_eq_some_iff.1 HB.out.2.2.2.2.2).1
            have hD2' := (Array.getElem?_eq_some_iff.1 HV.out.2.2).1
            have hupo : ∀ k (ob : Obj), W'.heap[k]? = some ob → k < c → W9.heap[k]? = some ob := fun k ob h ha =>
              (hab.block k (by omega)).trans ((hb8.block k (by omega)).trans ((HI.out.block k (by omega)).trans ((HX6.out.1.block k (by omega)).trans ((HF5.out.2.block k (by omega)).trans ((HV.out.2.1.block k ha).trans h)))))
            have hupV : ∀ k (ob : Obj), V.heap[k]? = some ob → k < V.heap.size → W9.heap[k]? = some ob := fun k ob h ha =>
              (hab.block k (by omega)).trans ((hb8.block k (by omega)).trans ((HI.out.block k (by omega)).trans ((HX6.out.1.block k (by omega)).trans ((HF5.out.2.block k ha).trans h))))
            have hbc : Below c W' W9 := HV.out.2.1.trans ((HF5.out.2.trans ((HX6.out.1.trans ((HI.out.trans ((hb8.trans (hab.mono hz8)).mono (by omega))).mono (by omega))).mono (by omega))).mono (by omega))
            have s3 := HS.out.2.1.below HB.out.2.1 HS.out.2.1.lt
            have s4 := HS.out.2.2.1.below HB.out.2.1 HS.out.2.2.1.lt
            refine ⟨hupo _ _ s3 (by have := HS.out.2.1.lt; omega), hupo _ _ s4 (by have := HS.out.2.2.1.lt; omega), hupo _ _ HB.out.1 (by omega), hupo _ _ HB.out.2.2.1 (by omega), hupo _ _ HB.out.2.2.2.1 (by omega), ?_, ?_, rfl, ?_, ?_, ?_, ?_, ?_, ?_, hupo _ _ HB.out.2.2.2.2.2 (by omega), hupV _ _ HV.out.2.2 hD2', by omega, by omega, by omega⟩
            · rw [← hmc0]; exact hupV _ _ HV.out.1 HV.out.1.lt
            · exact (hab.block _ (by omega)).trans ((hb8.block _ (by omega)).trans ((HI.out.block _ (by omega)).trans HX6.out.2))
            · rw [← hmb]; exact hrow
            · rw [← hAA]; rfl
            · have := hrow; rw [← hAA, hmb] at this; exact names_of this
            · exact (strsB_own HB.out.2.2.2.2.1 (by rw [List.length_map])).strs.below (by rw [hc]; exact Nat.le_refl _) hbc
            · exact HS.out.2.2.2.trans ((HB.out.2.1.mono (by have := HS.out.2.2.2.size; exact this)).trans (hbc.mono (by omega)))
            · have := HS.out.2.2.2.size; omega)
          rw [hmb] at hW9
          simp only [zeroN10] at hW9
          have HW9 := Lib.hid hW9
          clear hab hrow hW9 hAA hb8
          gi_wp2_with (first | (refine wpListIn_store_rowW rfl 42 (.tmp 16) (.tmp 98) rfl mb A.toArray rfl rfl 42 zeroN10 (by rw [← hmb]; exact heap_alloc_new w8 _) (by rw [List.size_toArray]; exact n10_size hA10) (by simp [zeroN10, hA10]) (all_oneCell_toArray hA1) ?_; rw [HW9.out]))
          have hmx : Tryz.prog.follows Departure.mixedOrders = true := by kernel_rfl
          have YR := HY
          rw [wpIn_wide]
          by_cases hKt : (findF name).isSome = true
          · have hK := Lib.hid hKt
            rw [hKt]
            refine wp_region_slotsGB (m := 50) [50] hmx (fun i v W => (i = 35 → (StrsB W9.heap.size W v msgL)) ∧ (i ≠ 35 → v = ([.int .i64 32, .slice (some ⟨g, 0, none⟩) 32 32, .int .i64 32, .bool true, .bool true, .int .i64 mc, .int .i64 32, .int .u8 stop, .int .i64 stop, .int .i64 ((stop : Int) + 1), .int .i64 mc, .bool true, .bool true, .bool true, .bool true, sv, .string name, .bool true, .bool true, .bool true, .bool true, .bool true, .bool true, .bool true, .bool true, .bool true, .bool true, .bool true, undef, undef, undef, .bool true, .bool true, .bool true, .slice (some ⟨mb, 1, none⟩) 9 9, undef, .bool true, .bool true, .bool true, .pointer (some ⟨mb, 0, none⟩), .string ⟨#[]⟩, .bool true, .bool true, .bool true, .string name, .int .i64 (numR name : Nat), .string name, .int .i64 (numR name : Nat), .bool true, .bool true] : List Value).getD i undef)) (Below W9.heap.size W9) (by kernel_rfl) (by kernel_rfl) (fun i v W W' h hb => ⟨fun e => (h.1 e).below hb, h.2⟩) ((Below.refl _ _).drew) ?_ ?_
            · refine ⟨?_, ?_, ?_, ?_, ?_, ?_, ?_, ?_, ?_, ?_, ?_, ?_, ?_, ?_, ?_, ?_, ?_, ?_, ?_, ?_, ?_, ?_, ?_, ?_, ?_, ?_, ?_, ?_, ?_, ?_, ?_, ?_, ?_, ?_, ?_, ?_, ?_, ?_, ?_, ?_, ?_, ?_, ?_, ?_, ?_, ?_, ?_, ?_, ?_, ?_, trivial⟩
              · intro ρ vals W hC hd ht hk hg hf
                have e6 := ht 6
                rw [evalS_old (by kernel_rfl)] at e6
                clear ht hd
                have q := (YR.out.r6.below hC YR.out.r6.lt).cell 0
                simp only [List.getElem?_cons_zero] at q
                unfold StepG
                unfold StepOK
                go_simp
                first | exact Below.refl _ _ | exact ⟨⟨fun h => absurd h (by decide), fun _ => rfl⟩, hC, Below.refl _ _⟩
              · intro ρ vals W hC hd ht hk hg hf
                have e5 := ht 5
                rw [evalS_old (by kernel_rfl)] at e5
                clear ht hd
                have q := (YR.out.r5.below hC YR.out.r5.lt).cell 0
                simp only [List.getElem?_cons_zero] at q
                unfold StepG
                unfold StepOK
                go_simp
                first | exact Below.refl _ _ | exact ⟨⟨fun h => absurd h (by decide), fun _ => rfl⟩, hC, Below.refl _ _⟩
              · intro ρ vals W hC hd ht hk hg hf
                have d1 := (hd 1 (by kernel_rfl)).2 (by decide)
                have e100 := ht 100
                rw [evalS_tmp (i := 1) (by kernel_rfl), d1] at e100
                clear ht hd d1
                unfold StepG
                unfold StepOK
                go_simp
                first | exact Below.refl _ _ | exact ⟨⟨fun h => absurd h (by decide), fun _ => rfl⟩, hC, Below.refl _ _⟩
              · intro ρ vals W hC hd ht hk hg hf
                have d0 := (hd 0 (by kernel_rfl)).2 (by decide)
                have e99 := ht 99
                rw [evalS_tmp (i := 0) (by kernel_rfl), d0] at e99
                have d2 := (hd 2 (by kernel_rfl)).2 (by decide)
                have e101 := ht 101
                rw [evalS_tmp (i := 2) (by kernel_rfl), d2] at e101
                clear ht hd d0 d2
                unfold StepG
                unfold StepOK
                go_simp
                first | exact Below.refl _ _ | exact ⟨⟨fun h => absurd h (by decide), fun _ => rfl⟩, hC, Below.refl _ _⟩
              · intro ρ vals W hC hd ht hk hg hf
                have d3 := (hd 3 (by kernel_rfl)).2 (by decide)
                have e102 := ht 102
                rw [evalS_tmp (i := 3) (by kernel_rfl), d3] at e102
                clear ht hd d3
                unfold StepG
                unfold StepOK
                go_simp
                first | exact Below.refl _ _ | exact ⟨⟨fun h => absurd h (by decide), fun _ => rfl⟩, hC, Below.refl _ _⟩
              · intro ρ vals W hC hd ht hk hg hf
                have hgd : vals 4 = .bool true := (hd 4 (by kernel_rfl)).2 (by decide)
                have e10 := ht 10
                rw [evalS_old (by kernel_rfl)] at e10
                clear ht hd
                have q := (YR.out.r10.below hC YR.out.r10.lt).cell 0
                simp only [List.getElem?_cons_zero] at q
                unfold StepG
                refine ⟨fun _ => ?_, fun h => absurd hgd h⟩
                unfold StepOK
                go_simp
                first | exact Below.refl _ _ | exact ⟨⟨fun h => absurd h (by decide), fun _ => rfl⟩, hC, Below.refl _ _⟩
              · intro ρ vals W hC hd ht hk hg hf
                have hgd : vals 4 = .bool true := (hd 4 (by kernel_rfl)).2 (by decide)
                have e6 := ht 6
                rw [evalS_old (by kernel_rfl)] at e6
                clear ht hd
                have q := (YR.out.r6.below hC YR.out.r6.lt).cell 0
                simp only [List.getElem?_cons_zero] at q
                unfold StepG
                refine ⟨fun _ => ?_, fun h => absurd hgd h⟩
                unfold StepOK
                go_simp
                first | exact Below.refl _ _ | exact ⟨⟨fun h => absurd h (by decide), fun _ => rfl⟩, hC, Below.refl _ _⟩
              · intro ρ vals W hC hd ht hk hg hf
                have hgd : vals 4 = .bool true := (hd 4 (by kernel_rfl)).2 (by decide)
                have e3 := ht 3
                rw [evalS_old (by kernel_rfl)] at e3
                clear ht hd
                have q := (YR.out.r3.below hC YR.out.r3.lt).cell 0
                simp only [List.getElem?_cons_zero] at q
                unfold StepG
                refine ⟨fun _ => ?_, fun h => absurd hgd h⟩
                unfold StepOK
                go_simp
                first | exact Below.refl _ _ | exact ⟨⟨fun h => absurd h (by decide), fun _ => rfl⟩, hC, Below.refl _ _⟩
              · intro ρ vals W hC hd ht hk hg hf
                have hgd : vals 4 = .bool true := (hd 4 (by kernel_rfl)).2 (by decide)
                have d7 := (hd 7 (by kernel_rfl)).2 (by decide)
                have e106 := ht 106
                rw [evalS_tmp (i := 7) (by kernel_rfl), d7] at e106
                clear ht hd d7
                have hw2 : IntKind.i64.wrap (stop : Int) = (stop : Int) := IntWalk.i64_in _ (by omega)
                unfold StepG
                refine ⟨fun _ => ?_, fun h => absurd hgd h⟩
                unfold StepOK
                go_simp
                first | exact Below.refl _ _ | exact ⟨⟨fun h => absurd h (by decide), fun _ => rfl⟩, hC, Below.refl _ _⟩
              · intro ρ vals W hC hd ht hk hg hf
                have hgd : vals 4 = .bool true := (hd 4 (by kernel_rfl)).2 (by decide)
                have d8 := (hd 8 (by kernel_rfl)).2 (by decide)
                have e107 := ht 107
                rw [evalS_tmp (i := 8) (by kernel_rfl), d8] at e107
                clear ht hd d8
                have hw3 : IntKind.i64.wrap ((stop : Int) + 1) = (stop : Int) + 1 := IntWalk.i64_in _ (by omega)
                unfold StepG
                refine ⟨fun _ => ?_, fun h => absurd hgd h⟩
                unfold StepOK
                go_simp
                first | exact Below.refl _ _ | exact ⟨⟨fun h => absurd h (by decide), fun _ => rfl⟩, hC, Below.refl _ _⟩
              · intro ρ vals W hC hd ht hk hg hf
                have hgd : vals 4 = .bool true := (hd 4 (by kernel_rfl)).2 (by decide)
                have d6 := (hd 6 (by kernel_rfl)).2 (by decide)
                have e105 := ht 105
                rw [evalS_tmp (i := 6) (by kernel_rfl), d6] at e105
                have d9 := (hd 9 (by kernel_rfl)).2 (by decide)
                have e108 := ht 108
                rw [evalS_tmp (i := 9) (by kernel_rfl), d9] at e108
                clear ht hd d6 d9
                have hmin := min_cut stop
                rw [hmc.out] at hmin
                unfold StepG
                refine ⟨fun _ => ?_, fun h => absurd hgd h⟩
                unfold StepOK
                go_simp
                first | exact Below.refl _ _ | exact ⟨⟨fun h => absurd h (by decide), fun _ => rfl⟩, hC, Below.refl _ _⟩
              · intro ρ vals W hC hd ht hk hg hf
                have hgd : vals 4 = .bool true := (hd 4 (by kernel_rfl)).2 (by decide)
                have d5 := (hd 5 (by kernel_rfl)).2 (by decide)
                have e104 := ht 104
                rw [evalS_tmp (i := 5) (by kernel_rfl), d5] at e104
                have d10 := (hd 10 (by kernel_rfl)).2 (by decide)
                have e109 := ht 109
                rw [evalS_tmp (i := 10) (by kernel_rfl), d10] at e109
                clear ht hd d5 d10
                unfold StepG
                refine ⟨fun _ => ?_, fun h => absurd hgd h⟩
                unfold StepOK
                go_simp
                first | exact Below.refl _ _ | exact ⟨⟨fun h => absurd h (by decide), fun _ => rfl⟩, hC, Below.refl _ _⟩
              · intro ρ vals W hC hd ht hk hg hf
                have d4 := (hd 4 (by kernel_rfl)).2 (by decide)
                have e103 := ht 103
                rw [evalS_tmp (i := 4) (by kernel_rfl), d4] at e103
                have d11 := (hd 11 (by kernel_rfl)).2 (by decide)
                have e110 := ht 110
                rw [evalS_tmp (i := 11) (by kernel_rfl), d11] at e110
                clear ht hd d4 d11
                unfold StepG
                unfold StepOK
                go_simp
                first | exact Below.refl _ _ | exact ⟨⟨fun h => absurd h (by decide), fun _ => rfl⟩, hC, Below.refl _ _⟩
              · intro ρ vals W hC hd ht hk hg hf
                have d12 := (hd 12 (by kernel_rfl)).2 (by decide)
                have e111 := ht 111
                rw [evalS_tmp (i := 12) (by kernel_rfl), d12] at e111
                clear ht hd d12
                unfold StepG
                unfold StepOK
                go_simp
                first | exact Below.refl _ _ | exact ⟨⟨fun h => absurd h (by decide), fun _ => rfl⟩, hC, Below.refl _ _⟩
              · intro ρ vals W hC hd ht hk hg hf
                have hgd : vals 13 = .bool true := (hd 13 (by kernel_rfl)).2 (by decide)
                have e12 := ht 12
                rw [evalS_old (by kernel_rfl)] at e12
                clear ht hd
                unfold StepG
                refine ⟨fun _ => ?_, fun h => absurd hgd h⟩
                unfold StepOK
                go_simp
                first | exact Below.refl _ _ | exact ⟨⟨fun h => absurd h (by decide), fun _ => rfl⟩, hC, Below.refl _ _⟩
              · intro ρ vals W hC hd ht hk hg hf
                have hgd : vals 13 = .bool true := (hd 13 (by kernel_rfl)).2 (by decide)
                have e7 := ht 7
                rw [evalS_old (by kernel_rfl)] at e7
                clear ht hd
                have q := (YR.out.r7.below hC YR.out.r7.lt).cell 0
                simp only [List.getElem?_cons_zero] at q
                unfold StepG
                refine ⟨fun _ => ?_, fun h => absurd hgd h⟩
                unfold StepOK
                go_simp
                first | exact Below.refl _ _ | exact ⟨⟨fun h => absurd h (by decide), fun _ => rfl⟩, hC, Below.refl _ _⟩
              · intro ρ vals W hC hd ht hk hg hf
                have hgd : vals 13 = .bool true := (hd 13 (by kernel_rfl)).2 (by decide)
                have e0 := ht 0
                rw [evalS_old (by kernel_rfl)] at e0
                clear ht hd
                unfold StepG
                refine ⟨fun _ => ?_, fun h => absurd hgd h⟩
                unfold StepOK
                go_simp
                first | exact Below.refl _ _ | exact ⟨⟨fun h => absurd h (by decide), fun _ => rfl⟩, hC, Below.refl _ _⟩
              · intro ρ vals W hC hd ht hk hg hf
                have hgd : vals 13 = .bool true := (hd 13 (by kernel_rfl)).2 (by decide)
                have d15 := (hd 15 (by kernel_rfl)).2 (by decide)
                have e114 := ht 114
                rw [evalS_tmp (i := 15) (by kernel_rfl), d15] at e114
                have d16 := (hd 16 (by kernel_rfl)).2 (by decide)
                have e115 := ht 115
                rw [evalS_tmp (i := 16) (by kernel_rfl), d16] at e115
                clear ht hd d15 d16
                unfold StepG
                refine ⟨fun _ => ?_, fun h => absurd hgd h⟩
                unfold StepOK
                go_simp
                refine (contains_any sv (fullF.map fun x => x.2.name) name W ((YR.out.seen).below (Nat.le_refl _) hC) (by rw [List.length_map, fullF_length]; omega)).mono ?_
                rintro e W2 ⟨rfl, rfl⟩
                exact ⟨_, rfl, by rw [mem_full, hK.out], hC, Below.refl _ _⟩
              · intro ρ vals W hC hd ht hk hg hf
                have hgd : vals 13 = .bool true := (hd 13 (by kernel_rfl)).2 (by decide)
                have d14 := (hd 14 (by kernel_rfl)).2 (by decide)
                have e113 := ht 113
                rw [evalS_tmp (i := 14) (by kernel_rfl), d14] at e113
                have d17 := (hd 17 (by kernel_rfl)).2 (by decide)
                have e116 := ht 116
                rw [evalS_tmp (i := 17) (by kernel_rfl), d17] at e116
                clear ht hd d14 d17
                unfold StepG
                refine ⟨fun _ => ?_, fun h => absurd hgd h⟩
                unfold StepOK
                go_simp
                first | exact Below.refl _ _ | exact ⟨⟨fun h => absurd h (by decide), fun _ => rfl⟩, hC, Below.refl _ _⟩
              · intro ρ vals W hC hd ht hk hg hf
                have d13 := (hd 13 (by kernel_rfl)).2 (by decide)
                have e112 := ht 112
                rw [evalS_tmp (i := 13) (by kernel_rfl), d13] at e112
                have d18 := (hd 18 (by kernel_rfl)).2 (by decide)
                have e117 := ht 117
                rw [evalS_tmp (i := 18) (by kernel_rfl), d18] at e117
                clear ht hd d13 d18
                unfold StepG
                unfold StepOK
                go_simp
                first | exact Below.refl _ _ | exact ⟨⟨fun h => absurd h (by decide), fun _ => rfl⟩, hC, Below.refl _ _⟩
              · intro ρ vals W hC hd ht hk hg hf
                have d19 := (hd 19 (by kernel_rfl)).2 (by decide)
                have e118 := ht 118
                rw [evalS_tmp (i := 19) (by kernel_rfl), d19] at e118
                clear ht hd d19
                unfold StepG
                unfold StepOK
                go_simp
                first | exact Below.refl _ _ | exact ⟨⟨fun h => absurd h (by decide), fun _ => rfl⟩, hC, Below.refl _ _⟩
              · intro ρ vals W hC hd ht hk hg hf
                have hgd : vals 20 = .bool true := (hd 20 (by kernel_rfl)).2 (by decide)
                have e12 := ht 12
                rw [evalS_old (by kernel_rfl)] at e12
                clear ht hd
                unfold StepG
                refine ⟨fun _ => ?_, fun h => absurd hgd h⟩
                unfold StepOK
                go_simp
                first | exact Below.refl _ _ | exact ⟨⟨fun h => absurd h (by decide), fun _ => rfl⟩, hC, Below.refl _ _⟩
              · intro ρ vals W hC hd ht hk hg hf
                have hgd : vals 20 = .bool true := (hd 20 (by kernel_rfl)).2 (by decide)
                have e13 := ht 13
                rw [evalS_old (by kernel_rfl)] at e13
                clear ht hd
                unfold StepG
                refine ⟨fun _ => ?_, fun h => absurd hgd h⟩
                unfold StepOK
                go_simp
                first | exact Below.refl _ _ | exact ⟨⟨fun h => absurd h (by decide), fun _ => rfl⟩, hC, Below.refl _ _⟩
              · intro ρ vals W hC hd ht hk hg hf
                have hgd : vals 20 = .bool true := (hd 20 (by kernel_rfl)).2 (by decide)
                have d21 := (hd 21 (by kernel_rfl)).2 (by decide)
                have e120 := ht 120
                rw [evalS_tmp (i := 21) (by kernel_rfl), d21] at e120
                have d22 := (hd 22 (by kernel_rfl)).2 (by decide)
                have e121 := ht 121
                rw [evalS_tmp (i := 22) (by kernel_rfl), d22] at e121
                clear ht hd d21 d22
                unfold StepG
                refine ⟨fun _ => ?_, fun h => absurd hgd h⟩
                unfold StepOK
                go_simp
                first | exact Below.refl _ _ | exact ⟨⟨fun h => absurd h (by decide), fun _ => rfl⟩, hC, Below.refl _ _⟩
              · intro ρ vals W hC hd ht hk hg hf
                have d20 := (hd 20 (by kernel_rfl)).2 (by decide)
                have e119 := ht 119
                rw [evalS_tmp (i := 20) (by kernel_rfl), d20] at e119
                have d23 := (hd 23 (by kernel_rfl)).2 (by decide)
                have e122 := ht 122
                rw [evalS_tmp (i := 23) (by kernel_rfl), d23] at e122
                clear ht hd d20 d23
                unfold StepG
                unfold StepOK
                go_simp
                first | exact Below.refl _ _ | exact ⟨⟨fun h => absurd h (by decide), fun _ => rfl⟩, hC, Below.refl _ _⟩
              · intro ρ vals W hC hd ht hk hg hf
                have d24 := (hd 24 (by kernel_rfl)).2 (by decide)
                have e123 := ht 123
                rw [evalS_tmp (i := 24) (by kernel_rfl), d24] at e123
                clear ht hd d24
                unfold StepG
                unfold StepOK
                go_simp
                first | exact Below.refl _ _ | exact ⟨⟨fun h => absurd h (by decide), fun _ => rfl⟩, hC, Below.refl _ _⟩
              · intro ρ vals W hC hd ht hk hg hf
                have hgd : vals 25 = .bool true := (hd 25 (by kernel_rfl)).2 (by decide)
                have e12 := ht 12
                rw [evalS_old (by kernel_rfl)] at e12
                clear ht hd
                unfold StepG
                refine ⟨fun _ => ?_, fun h => absurd hgd h⟩
                unfold StepOK
                go_simp
                first | exact Below.refl _ _ | exact ⟨⟨fun h => absurd h (by decide), fun _ => rfl⟩, hC, Below.refl _ _⟩
              · intro ρ vals W hC hd ht hk hg hf
                have hgd : vals 25 = .bool true := (hd 25 (by kernel_rfl)).2 (by decide)
                have d26 := (hd 26 (by kernel_rfl)).2 (by decide)
                have e125 := ht 125
                rw [evalS_tmp (i := 26) (by kernel_rfl), d26] at e125
                clear ht hd d26
                unfold StepG
                refine ⟨fun _ => ?_, fun h => absurd hgd h⟩
                unfold StepOK
                go_simp
                first | exact Below.refl _ _ | exact ⟨⟨fun h => absurd h (by decide), fun _ => rfl⟩, hC, Below.refl _ _⟩
              · intro ρ vals W hC hd ht hk hg hf
                have hgd : vals 27 = .bool true := (hd 27 (by kernel_rfl)).2 (by decide)
                unfold StepG
                exact ⟨fun h => (by rw [hgd] at h; cases h), fun _ => ⟨fun h => absurd h (by decide), fun _ => rfl⟩⟩
              · intro ρ vals W hC hd ht hk hg hf
                have hgd : vals 27 = .bool true := (hd 27 (by kernel_rfl)).2 (by decide)
                unfold StepG
                exact ⟨fun h => (by rw [hgd] at h; cases h), fun _ => ⟨fun h => absurd h (by decide), fun _ => rfl⟩⟩
              · intro ρ vals W hC hd ht hk hg hf
                have hgd : vals 27 = .bool true := (hd 27 (by kernel_rfl)).2 (by decide)
                unfold StepG
                exact ⟨fun h => (by rw [hgd] at h; cases h), fun _ => ⟨fun h => absurd h (by decide), fun _ => rfl⟩⟩
              · intro ρ vals W hC hd ht hk hg hf
                have hgd : vals 25 = .bool true := (hd 25 (by kernel_rfl)).2 (by decide)
                have d27 := (hd 27 (by kernel_rfl)).2 (by decide)
                have e126 := ht 126
                rw [evalS_tmp (i := 27) (by kernel_rfl), d27] at e126
                have d30 := (hd 30 (by kernel_rfl)).2 (by decide)
                have e129 := ht 129
                rw [evalS_tmp (i := 30) (by kernel_rfl), d30] at e129
                clear ht hd d27 d30
                unfold StepG
                refine ⟨fun _ => ?_, fun h => absurd hgd h⟩
                unfold StepOK
                go_simp
                first | exact Below.refl _ _ | exact ⟨⟨fun h => absurd h (by decide), fun _ => rfl⟩, hC, Below.refl _ _⟩
              · intro ρ vals W hC hd ht hk hg hf
                have d25 := (hd 25 (by kernel_rfl)).2 (by decide)
                have e124 := ht 124
                rw [evalS_tmp (i := 25) (by kernel_rfl), d25] at e124
                have d31 := (hd 31 (by kernel_rfl)).2 (by decide)
                have e130 := ht 130
                rw [evalS_tmp (i := 31) (by kernel_rfl), d31] at e130
                clear ht hd d25 d31
                unfold StepG
                unfold StepOK
                go_simp
                first | exact Below.refl _ _ | exact ⟨⟨fun h => absurd h (by decide), fun _ => rfl⟩, hC, Below.refl _ _⟩
              · intro ρ vals W hC hd ht hk hg hf
                have d32 := (hd 32 (by kernel_rfl)).2 (by decide)
                have e131 := ht 131
                rw [evalS_tmp (i := 32) (by kernel_rfl), d32] at e131
                clear ht hd d32
                unfold StepG
                unfold StepOK
                go_simp
                first | exact Below.refl _ _ | exact ⟨⟨fun h => absurd h (by decide), fun _ => rfl⟩, hC, Below.refl _ _⟩
              · intro ρ vals W hC hd ht hk hg hf
                have hgd : vals 33 = .bool true := (hd 33 (by kernel_rfl)).2 (by decide)
                have e16 := ht 16
                rw [evalS_old (by kernel_rfl)] at e16
                clear ht hd
                unfold StepG
                refine ⟨fun _ => ?_, fun h => absurd hgd h⟩
                unfold StepOK
                go_simp
                first | exact Below.refl _ _ | exact ⟨⟨fun h => absurd h (by decide), fun _ => rfl⟩, hC, Below.refl _ _⟩
              · intro ρ vals W hC hd ht hk hg hf
                have hgd : vals 33 = .bool true := (hd 33 (by kernel_rfl)).2 (by decide)
                clear ht hd
                unfold StepG
                refine ⟨fun _ => ?_, fun h => absurd hgd h⟩
                unfold StepOK
                go_simp
                refine (refNames_any W).mono ?_
                rintro e W2 ⟨v, rfl, hs, hb⟩
                exact ⟨_, rfl, StrsB.mono hs (by exact hC.size), hC.trans (hb.mono hC.size), hb⟩
              · intro ρ vals W hC hd ht hk hg hf
                have hgd : vals 33 = .bool true := (hd 33 (by kernel_rfl)).2 (by decide)
                have d34 := (hd 34 (by kernel_rfl)).2 (by decide)
                have e133 := ht 133
                rw [evalS_tmp (i := 34) (by kernel_rfl), d34] at e133
                have h35 := (hd 35 (by kernel_rfl)).1 rfl
                have e134 := ht 134
                rw [evalS_tmp (i := 35) (by kernel_rfl)] at e134
                obtain ⟨nv, hnv⟩ : ∃ nv, vals 35 = nv := ⟨_, rfl⟩
                rw [hnv] at h35 e134
                clear ht hd d34
                unfold StepG
                refine ⟨fun _ => ?_, fun h => absurd hgd h⟩
                unfold StepOK
                go_simp
                refine (Equal_any (.slice (some ⟨mb, 1, none⟩) 9 9) nv msgL msgL W (YR.out.names.below (Nat.le_refl _) hC) h35.strs (by decide) (by decide)).mono ?_
                rintro e W2 ⟨rfl, n, rfl⟩
                exact ⟨_, rfl, by rw [decide_eq_true rfl], below_drewN_c hC n, below_drewN_c (Below.refl _ _) n⟩
              · intro ρ vals W hC hd ht hk hg hf
                have d33 := (hd 33 (by kernel_rfl)).2 (by decide)
                have e132 := ht 132
                rw [evalS_tmp (i := 33) (by kernel_rfl), d33] at e132
                have d36 := (hd 36 (by kernel_rfl)).2 (by decide)
                have e135 := ht 135
                rw [evalS_tmp (i := 36) (by kernel_rfl), d36] at e135
                clear ht hd d33 d36
                unfold StepG
                unfold StepOK
                go_simp
                first | exact Below.refl _ _ | exact ⟨⟨fun h => absurd h (by decide), fun _ => rfl⟩, hC, Below.refl _ _⟩
              · intro ρ vals W hC hd ht hk hg hf
                have d37 := (hd 37 (by kernel_rfl)).2 (by decide)
                have e136 := ht 136
                rw [evalS_tmp (i := 37) (by kernel_rfl), d37] at e136
                clear ht hd d37
                unfold StepG
                unfold StepOK
                go_simp
                first | exact Below.refl _ _ | exact ⟨⟨fun h => absurd h (by decide), fun _ => rfl⟩, hC, Below.refl _ _⟩
              · intro ρ vals W hC hd ht hk hg hf
                have hgd : vals 38 = .bool true := (hd 38 (by kernel_rfl)).2 (by decide)
                have e16 := ht 16
                rw [evalS_old (by kernel_rfl)] at e16
                clear ht hd
                unfold StepG
                refine ⟨fun _ => ?_, fun h => absurd hgd h⟩
                unfold StepOK
                go_simp
                first | exact Below.refl _ _ | exact ⟨⟨fun h => absurd h (by decide), fun _ => rfl⟩, hC, Below.refl _ _⟩
              · intro ρ vals W hC hd ht hk hg hf
                have hgd : vals 38 = .bool true := (hd 38 (by kernel_rfl)).2 (by decide)
                have d39 := (hd 39 (by kernel_rfl)).2 (by decide)
                have e138 := ht 138
                rw [evalS_tmp (i := 39) (by kernel_rfl), d39] at e138
                clear ht hd d39
                have q := (YR.out.rm.below hC YR.out.rm.lt).cell 0
                rw [YR.out.m0] at q
                unfold StepG
                refine ⟨fun _ => ?_, fun h => absurd hgd h⟩
                unfold StepOK
                go_simp
                first | exact Below.refl _ _ | exact ⟨⟨fun h => absurd h (by decide), fun _ => rfl⟩, hC, Below.refl _ _⟩
              · intro ρ vals W hC hd ht hk hg hf
                have hgd : vals 38 = .bool true := (hd 38 (by kernel_rfl)).2 (by decide)
                have d40 := (hd 40 (by kernel_rfl)).2 (by decide)
                have e139 := ht 139
                rw [evalS_tmp (i := 40) (by kernel_rfl), d40] at e139
                clear ht hd d40
                unfold StepG
                refine ⟨fun _ => ?_, fun h => absurd hgd h⟩
                unfold StepOK
                go_simp
                first | exact Below.refl _ _ | exact ⟨⟨fun h => absurd h (by decide), fun _ => rfl⟩, hC, Below.refl _ _⟩
              · intro ρ vals W hC hd ht hk hg hf
                have d38 := (hd 38 (by kernel_rfl)).2 (by decide)
                have e137 := ht 137
                rw [evalS_tmp (i := 38) (by kernel_rfl), d38] at e137
                have d41 := (hd 41 (by kernel_rfl)).2 (by decide)
                have e140 := ht 140
                rw [evalS_tmp (i := 41) (by kernel_rfl), d41] at e140
                clear ht hd d38 d41
                unfold StepG
                unfold StepOK
                go_simp
                first | exact Below.refl _ _ | exact ⟨⟨fun h => absurd h (by decide), fun _ => rfl⟩, hC, Below.refl _ _⟩
              · intro ρ vals W hC hd ht hk hg hf
                have d42 := (hd 42 (by kernel_rfl)).2 (by decide)
                have e141 := ht 141
                rw [evalS_tmp (i := 42) (by kernel_rfl), d42] at e141
                clear ht hd d42
                unfold StepG
                unfold StepOK
                go_simp
                first | exact Below.refl _ _ | exact ⟨⟨fun h => absurd h (by decide), fun _ => rfl⟩, hC, Below.refl _ _⟩
              · intro ρ vals W hC hd ht hk hg hf
                have hgd : vals 43 = .bool true := (hd 43 (by kernel_rfl)).2 (by decide)
                have e0 := ht 0
                rw [evalS_old (by kernel_rfl)] at e0
                clear ht hd
                unfold StepG
                refine ⟨fun _ => ?_, fun h => absurd hgd h⟩
                unfold StepOK
                go_simp
                first | exact Below.refl _ _ | exact ⟨⟨fun h => absurd h (by decide), fun _ => rfl⟩, hC, Below.refl _ _⟩
              · intro ρ vals W hC hd ht hk hg hf
                have hgd : vals 43 = .bool true := (hd 43 (by kernel_rfl)).2 (by decide)
                have d44 := (hd 44 (by kernel_rfl)).2 (by decide)
                have e143 := ht 143
                rw [evalS_tmp (i := 44) (by kernel_rfl), d44] at e143
                clear ht hd d44
                unfold StepG
                refine ⟨fun _ => ?_, fun h => absurd hgd h⟩
                unfold StepOK
                go_simp
                refine (Message_any name W).mono ?_
                rintro e W2 ⟨rfl, hb⟩
                exact ⟨_, rfl, by rw [num_same], hC.trans (hb.mono hC.size), hb⟩
              · intro ρ vals W hC hd ht hk hg hf
                have hgd : vals 43 = .bool true := (hd 43 (by kernel_rfl)).2 (by decide)
                have e0 := ht 0
                rw [evalS_old (by kernel_rfl)] at e0
                clear ht hd
                unfold StepG
                refine ⟨fun _ => ?_, fun h => absurd hgd h⟩
                unfold StepOK
                go_simp
                first | exact Below.refl _ _ | exact ⟨⟨fun h => absurd h (by decide), fun _ => rfl⟩, hC, Below.refl _ _⟩
              · intro ρ vals W hC hd ht hk hg hf
                have hgd : vals 43 = .bool true := (hd 43 (by kernel_rfl)).2 (by decide)
                have d46 := (hd 46 (by kernel_rfl)).2 (by decide)
                have e145 := ht 145
                rw [evalS_tmp (i := 46) (by kernel_rfl), d46] at e145
                clear ht hd d46
                unfold StepG
                refine ⟨fun _ => ?_, fun h => absurd hgd h⟩
                unfold StepOK
                go_simp
                refine (refNumber_any name W).mono ?_
                rintro e W2 ⟨rfl, hb⟩
                exact ⟨_, rfl, rfl, hC.trans (hb.mono hC.size), hb⟩
              · intro ρ vals W hC hd ht hk hg hf
                have hgd : vals 43 = .bool true := (hd 43 (by kernel_rfl)).2 (by decide)
                have d45 := (hd 45 (by kernel_rfl)).2 (by decide)
                have e144 := ht 144
                rw [evalS_tmp (i := 45) (by kernel_rfl), d45] at e144
                have d47 := (hd 47 (by kernel_rfl)).2 (by decide)
                have e146 := ht 146
                rw [evalS_tmp (i := 47) (by kernel_rfl), d47] at e146
                clear ht hd d45 d47
                unfold StepG
                refine ⟨fun _ => ?_, fun h => absurd hgd h⟩
                unfold StepOK
                go_simp
                first | exact Below.refl _ _ | exact ⟨⟨fun h => absurd h (by decide), fun _ => rfl⟩, hC, Below.refl _ _⟩
              · intro ρ vals W hC hd ht hk hg hf
                have d43 := (hd 43 (by kernel_rfl)).2 (by decide)
                have e142 := ht 142
                rw [evalS_tmp (i := 43) (by kernel_rfl), d43] at e142
                have d48 := (hd 48 (by kernel_rfl)).2 (by decide)
                have e147 := ht 147
                rw [evalS_tmp (i := 48) (by kernel_rfl), d48] at e147
                clear ht hd d43 d48
                unfold StepG
                unfold StepOK
                go_simp
                first | exact Below.refl _ _ | exact ⟨⟨fun h => absurd h (by decide), fun _ => rfl⟩, hC, Below.refl _ _⟩
            · intro vals W hC hR
              have r0 : vals 0 = .int .i64 32 := (hR 0 (by omega)).2 (by decide)
              have r1 : vals 1 = .slice (some ⟨g, 0, none⟩) 32 32 := (hR 1 (by omega)).2 (by decide)
              have r2 : vals 2 = .int .i64 32 := (hR 2 (by omega)).2 (by decide)
              have r3 : vals 3 = .bool true := (hR 3 (by omega)).2 (by decide)
              have r4 : vals 4 = .bool true := (hR 4 (by omega)).2 (by decide)
              have r5 : vals 5 = .int .i64 mc := (hR 5 (by omega)).2 (by decide)
              have r6 : vals 6 = .int .i64 32 := (hR 6 (by omega)).2 (by decide)
              have r7 : vals 7 = .int .u8 stop := (hR 7 (by omega)).2 (by decide)
              have r8 : vals 8 = .int .i64 stop := (hR 8 (by omega)).2 (by decide)
              have r9 : vals 9 = .int .i64 ((stop : Int) + 1) := (hR 9 (by omega)).2 (by decide)
              have r10 : vals 10 = .int .i64 mc := (hR 10 (by omega)).2 (by decide)
              have r11 : vals 11 = .bool true := (hR 11 (by omega)).2 (by decide)
              have r12 : vals 12 = .bool true := (hR 12 (by omega)).2 (by decide)
              have r13 : vals 13 = .bool true := (hR 13 (by omega)).2 (by decide)
              have r14 : vals 14 = .bool true := (hR 14 (by omega)).2 (by decide)
              have r15 : vals 15 = sv := (hR 15 (by omega)).2 (by decide)
              have r16 : vals 16 = .string name := (hR 16 (by omega)).2 (by decide)
              have r17 : vals 17 = .bool true := (hR 17 (by omega)).2 (by decide)
              have r18 : vals 18 = .bool true := (hR 18 (by omega)).2 (by decide)
              have r19 : vals 19 = .bool true := (hR 19 (by omega)).2 (by decide)
              have r20 : vals 20 = .bool true := (hR 20 (by omega)).2 (by decide)
              have r21 : vals 21 = .bool true := (hR 21 (by omega)).2 (by decide)
              have r22 : vals 22 = .bool true := (hR 22 (by omega)).2 (by decide)
              have r23 : vals 23 = .bool true := (hR 23 (by omega)).2 (by decide)
              have r24 : vals 24 = .bool true := (hR 24 (by omega)).2 (by decide)
              have r25 : vals 25 = .bool true := (hR 25 (by omega)).2 (by decide)
              have r26 : vals 26 = .bool true := (hR 26 (by omega)).2 (by decide)
              have r27 : vals 27 = .bool true := (hR 27 (by omega)).2 (by decide)
              have r28 : vals 28 = undef := (hR 28 (by omega)).2 (by decide)
              have r29 : vals 29 = undef := (hR 29 (by omega)).2 (by decide)
              have r30 : vals 30 = undef := (hR 30 (by omega)).2 (by decide)
              have r31 : vals 31 = .bool true := (hR 31 (by omega)).2 (by decide)
              have r32 : vals 32 = .bool true := (hR 32 (by omega)).2 (by decide)
              have r33 : vals 33 = .bool true := (hR 33 (by omega)).2 (by decide)
              have r34 : vals 34 = .slice (some ⟨mb, 1, none⟩) 9 9 := (hR 34 (by omega)).2 (by decide)
              have r36 : vals 36 = .bool true := (hR 36 (by omega)).2 (by decide)
              have r37 : vals 37 = .bool true := (hR 37 (by omega)).2 (by decide)
              have r38 : vals 38 = .bool true := (hR 38 (by omega)).2 (by decide)
              have r39 : vals 39 = .pointer (some ⟨mb, 0, none⟩) := (hR 39 (by omega)).2 (by decide)
              have r40 : vals 40 = .string ⟨#[]⟩ := (hR 40 (by omega)).2 (by decide)
              have r41 : vals 41 = .bool true := (hR 41 (by omega)).2 (by decide)
              have r42 : vals 42 = .bool true := (hR 42 (by omega)).2 (by decide)
              have r43 : vals 43 = .bool true := (hR 43 (by omega)).2 (by decide)
              have r44 : vals 44 = .string name := (hR 44 (by omega)).2 (by decide)
              have r45 : vals 45 = .int .i64 (numR name : Nat) := (hR 45 (by omega)).2 (by decide)
              have r46 : vals 46 = .string name := (hR 46 (by omega)).2 (by decide)
              have r47 : vals 47 = .int .i64 (numR name : Nat) := (hR 47 (by omega)).2 (by decide)
              have r48 : vals 48 = .bool true := (hR 48 (by omega)).2 (by decide)
              have r49 : vals 49 = .bool true := (hR 49 (by omega)).2 (by decide)
              clear hR
              obtain ⟨nv, r35⟩ : ∃ nv, vals 35 = nv := ⟨_, rfl⟩
              simp only [List.take, putsS, Act.put, List.setIfInBounds_toArray, List.set_cons_zero, List.set_cons_succ, Nat.reduceAdd, r0, r1, r2, r3, r4, r5, r6, r7, r8, r9, r10, r11, r12, r13, r14, r15, r16, r17, r18, r19, r20, r21, r22, r23, r24, r25, r26, r27, r28, r29, r30, r31, r32, r33, r34, r35, r36, r37, r38, r39, r40, r41, r42, r43, r44, r45, r46, r47, r48, r49]
              clear r0 r1 r2 r3 r4 r5 r6 r7 r8 r9 r10 r11 r12 r13 r14 r15 r16 r17 r18 r19 r20 r21 r22 r23 r24 r25 r26 r27 r28 r29 r30 r31 r32 r33 r34 r35 r36 r37 r38 r39 r40 r41 r42 r43 r44 r45 r46 r47 r48 r49
              have R2 := YR.out.r4.below hC YR.out.r4.lt
              have c8 := R2.cell 0
              have f8 := R2.frozen 0
              have l8 := R2.lt
              simp only [List.getElem?_cons_zero] at c8
              have hr := Lib.hid (R2.set 0 (.bool true))
              have hbb := Lib.hid ((YR.out.be.trans (hC.mono YR.out.sz)).setCell (p := ⟨w.heap.size + 1, 0, none⟩) (by show w.heap.size ≤ w.heap.size + 1; omega) (.bool true))
              have hDD := Lib.hid (And.intro ((Below.heap_setCell W ⟨w.heap.size + 1, 0, none⟩ (.bool true) D (by have := YR.out.dn1; show D ≠ w.heap.size + 1; omega)).trans ((hC.block D (Array.getElem?_eq_some_iff.1 YR.out.d1).1).trans YR.out.d1)) ((Below.heap_setCell W ⟨w.heap.size + 1, 0, none⟩ (.bool true) D2 (by have := YR.out.dn2; show D2 ≠ w.heap.size + 1; omega)).trans ((hC.block D2 (Array.getElem?_eq_some_iff.1 YR.out.d2).1).trans YR.out.d2)))
              clear R2
              refine wpOps_one _ (by rfl) (by rfl) ?_
              go_wp2_with fail
              gi_wp2_with fail
              refine leaves_marks [D2, D] _ (by have := YR.out.dd; simp; omega) (by intro E hE; simp only [List.mem_cons, List.not_mem_nil, or_false] at hE; rcases hE with rfl | rfl; exact hDD.out.2; exact hDD.out.1) fun W10 h1 h2 h3 h4 h5 => ?_
              have hno : ∀ k, k ≤ w.heap.size + 1 → k ∉ [D2, D] := fun k hk hm => by have := YR.out.dn1; have := YR.out.dn2; simp only [List.mem_cons, List.not_mem_nil, or_false] at hm; omega
              exact ⟨_, results_boolC rfl _ _ (w.heap.size + 1) true rfl ((h5 _ (hno _ (Nat.le_refl _))).trans hr.out), rfl, ⟨h1.trans hbb.out.os, h2.trans hbb.out.tape, h3.trans hbb.out.output, by rw [h4]; exact hbb.out.size, fun k hk => (h5 k (hno k (by omega))).trans (hbb.out.block k hk)⟩⟩
          · have hKf : (findF name).isSome = false := by simpa using hKt
            have hK := Lib.hid hKf
            have hnm : Hid (fF.name = ⟨#[]⟩) := Lib.hid (by
              have e : findF name = none := by
                cases h : findF name with
                | none => rfl
                | some x => rw [h] at hKf; cases hKf
              rw [← HFF.out, e]
              rfl)
            rw [hKf]
            refine wp_region_slotsGB (m := 50) [50] hmx (fun i v W => (i = 35 → (StrsB W9.heap.size W v msgL)) ∧ (i ≠ 35 → v = ([.int .i64 32, .slice (some ⟨g, 0, none⟩) 32 32, .int .i64 32, .bool true, .bool true, .int .i64 mc, .int .i64 32, .int .u8 stop, .int .i64 stop, .int .i64 ((stop : Int) + 1), .int .i64 mc, .bool true, .bool true, .bool true, .bool false, sv, .string name, .bool false, .bool true, .bool true, .bool true, .bool false, .bool false, .bool true, .bool true, .bool true, .bool false, .bool false, .pointer (some ⟨w5.heap.size, 0, none⟩), .string ⟨#[]⟩, .bool true, .bool true, .bool true, .bool true, .slice (some ⟨mb, 1, none⟩) 9 9, undef, .bool true, .bool true, .bool true, .pointer (some ⟨mb, 0, none⟩), .string ⟨#[]⟩, .bool true, .bool true, .bool true, .string name, .int .i64 (numR name : Nat), .string name, .int .i64 (numR name : Nat), .bool true, .bool true] : List Value).getD i undef)) (Below W9.heap.size W9) (by kernel_rfl) (by kernel_rfl) (fun i v W W' h hb => ⟨fun e => (h.1 e).below hb, h.2⟩) ((Below.refl _ _).drew) ?_ ?_
            · refine ⟨?_, ?_, ?_, ?_, ?_, ?_, ?_, ?_, ?_, ?_, ?_, ?_, ?_, ?_, ?_, ?_, ?_, ?_, ?_, ?_, ?_, ?_, ?_, ?_, ?_, ?_, ?_, ?_, ?_, ?_, ?_, ?_, ?_, ?_, ?_, ?_, ?_, ?_, ?_, ?_, ?_, ?_, ?_, ?_, ?_, ?_, ?_, ?_, ?_, ?_, trivial⟩
              · intro ρ vals W hC hd ht hk hg hf
                have e6 := ht 6
                rw [evalS_old (by kernel_rfl)] at e6
                clear ht hd
                have q := (YR.out.r6.below hC YR.out.r6.lt).cell 0
                simp only [List.getElem?_cons_zero] at q
                unfold StepG
                unfold StepOK
                go_simp
                first | exact Below.refl _ _ | exact ⟨⟨fun h => absurd h (by decide), fun _ => rfl⟩, hC, Below.refl _ _⟩
              · intro ρ vals W hC hd ht hk hg hf
                have e5 := ht 5
                rw [evalS_old (by kernel_rfl)] at e5
                clear ht hd
                have q := (YR.out.r5.below hC YR.out.r5.lt).cell 0
                simp only [List.getElem?_cons_zero] at q
                unfold StepG
                unfold StepOK
                go_simp
                first | exact Below.refl _ _ | exact ⟨⟨fun h => absurd h (by decide), fun _ => rfl⟩, hC, Below.refl _ _⟩
              · intro ρ vals W hC hd ht hk hg hf
                have d1 := (hd 1 (by kernel_rfl)).2 (by decide)
                have e100 := ht 100
                rw [evalS_tmp (i := 1) (by kernel_rfl), d1] at e100
                clear ht hd d1
                unfold StepG
                unfold StepOK
                go_simp
                first | exact Below.refl _ _ | exact ⟨⟨fun h => absurd h (by decide), fun _ => rfl⟩, hC, Below.refl _ _⟩
              · intro ρ vals W hC hd ht hk hg hf
                have d0 := (hd 0 (by kernel_rfl)).2 (by decide)
                have e99 := ht 99
                rw [evalS_tmp (i := 0) (by kernel_rfl), d0] at e99
                have d2 := (hd 2 (by kernel_rfl)).2 (by decide)
                have e101 := ht 101
                rw [evalS_tmp (i := 2) (by kernel_rfl), d2] at e101
                clear ht hd d0 d2
                unfold StepG
                unfold StepOK
                go_simp
                first | exact Below.refl _ _ | exact ⟨⟨fun h => absurd h (by decide), fun _ => rfl⟩, hC, Below.refl _ _⟩
              · intro ρ vals W hC hd ht hk hg hf
                have d3 := (hd 3 (by kernel_rfl)).2 (by decide)
                have e102 := ht 102
                rw [evalS_tmp (i := 3) (by kernel_rfl), d3] at e102
                clear ht hd d3
                unfold StepG
                unfold StepOK
                go_simp
                first | exact Below.refl _ _ | exact ⟨⟨fun h => absurd h (by decide), fun _ => rfl⟩, hC, Below.refl _ _⟩
              · intro ρ vals W hC hd ht hk hg hf
                have hgd : vals 4 = .bool true := (hd 4 (by kernel_rfl)).2 (by decide)
                have e10 := ht 10
                rw [evalS_old (by kernel_rfl)] at e10
                clear ht hd
                have q := (YR.out.r10.below hC YR.out.r10.lt).cell 0
                simp only [List.getElem?_cons_zero] at q
                unfold StepG
                refine ⟨fun _ => ?_, fun h => absurd hgd h⟩
                unfold StepOK
                go_simp
                first | exact Below.refl _ _ | exact ⟨⟨fun h => absurd h (by decide), fun _ => rfl⟩, hC, Below.refl _ _⟩
              · intro ρ vals W hC hd ht hk hg hf
                have hgd : vals 4 = .bool true := (hd 4 (by kernel_rfl)).2 (by decide)
                have e6 := ht 6
                rw [evalS_old (by kernel_rfl)] at e6
                clear ht hd
                have q := (YR.out.r6.below hC YR.out.r6.lt).cell 0
                simp only [List.getElem?_cons_zero] at q
                unfold StepG
                refine ⟨fun _ => ?_, fun h => absurd hgd h⟩
                unfold StepOK
                go_simp
                first | exact Below.refl _ _ | exact ⟨⟨fun h => absurd h (by decide), fun _ => rfl⟩, hC, Below.refl _ _⟩
              · intro ρ vals W hC hd ht hk hg hf
                have hgd : vals 4 = .bool true := (hd 4 (by kernel_rfl)).2 (by decide)
                have e3 := ht 3
                rw [evalS_old (by kernel_rfl)] at e3
                clear ht hd
                have q := (YR.out.r3.below hC YR.out.r3.lt).cell 0
                simp only [List.getElem?_cons_zero] at q
                unfold StepG
                refine ⟨fun _ => ?_, fun h => absurd hgd h⟩
                unfold StepOK
                go_simp
                first | exact Below.refl _ _ | exact ⟨⟨fun h => absurd h (by decide), fun _ => rfl⟩, hC, Below.refl _ _⟩
              · intro ρ vals W hC hd ht hk hg hf
                have hgd : vals 4 = .bool true := (hd 4 (by kernel_rfl)).2 (by decide)
                have d7 := (hd 7 (by kernel_rfl)).2 (by decide)
                have e106 := ht 106
                rw [evalS_tmp (i := 7) (by kernel_rfl), d7] at e106
                clear ht hd d7
                have hw2 : IntKind.i64.wrap (stop : Int) = (stop : Int) := IntWalk.i64_in _ (by omega)
                unfold StepG
                refine ⟨fun _ => ?_, fun h => absurd hgd h⟩
                unfold StepOK
                go_simp
                first | exact Below.refl _ _ | exact ⟨⟨fun h => absurd h (by decide), fun _ => rfl⟩, hC, Below.refl _ _⟩
              · intro ρ vals W hC hd ht hk hg hf
                have hgd : vals 4 = .bool true := (hd 4 (by kernel_rfl)).2 (by decide)
                have d8 := (hd 8 (by kernel_rfl)).2 (by decide)
                have e107 := ht 107
                rw [evalS_tmp (i := 8) (by kernel_rfl), d8] at e107
                clear ht hd d8
                have hw3 : IntKind.i64.wrap ((stop : Int) + 1) = (stop : Int) + 1 := IntWalk.i64_in _ (by omega)
                unfold StepG
                refine ⟨fun _ => ?_, fun h => absurd hgd h⟩
                unfold StepOK
                go_simp
                first | exact Below.refl _ _ | exact ⟨⟨fun h => absurd h (by decide), fun _ => rfl⟩, hC, Below.refl _ _⟩
              · intro ρ vals W hC hd ht hk hg hf
                have hgd : vals 4 = .bool true := (hd 4 (by kernel_rfl)).2 (by decide)
                have d6 := (hd 6 (by kernel_rfl)).2 (by decide)
                have e105 := ht 105
                rw [evalS_tmp (i := 6) (by kernel_rfl), d6] at e105
                have d9 := (hd 9 (by kernel_rfl)).2 (by decide)
                have e108 := ht 108
                rw [evalS_tmp (i := 9) (by kernel_rfl), d9] at e108
                clear ht hd d6 d9
                have hmin := min_cut stop
                rw [hmc.out] at hmin
                unfold StepG
                refine ⟨fun _ => ?_, fun h => absurd hgd h⟩
                unfold StepOK
                go_simp
                first | exact Below.refl _ _ | exact ⟨⟨fun h => absurd h (by decide), fun _ => rfl⟩, hC, Below.refl _ _⟩
              · intro ρ vals W hC hd ht hk hg hf
                have hgd : vals 4 = .bool true := (hd 4 (by kernel_rfl)).2 (by decide)
                have d5 := (hd 5 (by kernel_rfl)).2 (by decide)
                have e104 := ht 104
                rw [evalS_tmp (i := 5) (by kernel_rfl), d5] at e104
                have d10 := (hd 10 (by kernel_rfl)).2 (by decide)
                have e109 := ht 109
                rw [evalS_tmp (i := 10) (by kernel_rfl), d10] at e109
                clear ht hd d5 d10
                unfold StepG
                refine ⟨fun _ => ?_, fun h => absurd hgd h⟩
                unfold StepOK
                go_simp
                first | exact Below.refl _ _ | exact ⟨⟨fun h => absurd h (by decide), fun _ => rfl⟩, hC, Below.refl _ _⟩
              · intro ρ vals W hC hd ht hk hg hf
                have d4 := (hd 4 (by kernel_rfl)).2 (by decide)
                have e103 := ht 103
                rw [evalS_tmp (i := 4) (by kernel_rfl), d4] at e103
                have d11 := (hd 11 (by kernel_rfl)).2 (by decide)
                have e110 := ht 110
                rw [evalS_tmp (i := 11) (by kernel_rfl), d11] at e110
                clear ht hd d4 d11
                unfold StepG
                unfold StepOK
                go_simp
                first | exact Below.refl _ _ | exact ⟨⟨fun h => absurd h (by decide), fun _ => rfl⟩, hC, Below.refl _ _⟩
              · intro ρ vals W hC hd ht hk hg hf
                have d12 := (hd 12 (by kernel_rfl)).2 (by decide)
                have e111 := ht 111
                rw [evalS_tmp (i := 12) (by kernel_rfl), d12] at e111
                clear ht hd d12
                unfold StepG
                unfold StepOK
                go_simp
                first | exact Below.refl _ _ | exact ⟨⟨fun h => absurd h (by decide), fun _ => rfl⟩, hC, Below.refl _ _⟩
              · intro ρ vals W hC hd ht hk hg hf
                have hgd : vals 13 = .bool true := (hd 13 (by kernel_rfl)).2 (by decide)
                have e12 := ht 12
                rw [evalS_old (by kernel_rfl)] at e12
                clear ht hd
                unfold StepG
                refine ⟨fun _ => ?_, fun h => absurd hgd h⟩
                unfold StepOK
                go_simp
                first | exact Below.refl _ _ | exact ⟨⟨fun h => absurd h (by decide), fun _ => rfl⟩, hC, Below.refl _ _⟩
              · intro ρ vals W hC hd ht hk hg hf
                have hgd : vals 13 = .bool true := (hd 13 (by kernel_rfl)).2 (by decide)
                have e7 := ht 7
                rw [evalS_old (by kernel_rfl)] at e7
                clear ht hd
                have q := (YR.out.r7.below hC YR.out.r7.lt).cell 0
                simp only [List.getElem?_cons_zero] at q
                unfold StepG
                refine ⟨fun _ => ?_, fun h => absurd hgd h⟩
                unfold StepOK
                go_simp
                first | exact Below.refl _ _ | exact ⟨⟨fun h => absurd h (by decide), fun _ => rfl⟩, hC, Below.refl _ _⟩
              · intro ρ vals W hC hd ht hk hg hf
                have hgd : vals 13 = .bool true := (hd 13 (by kernel_rfl)).2 (by decide)
                have e0 := ht 0
                rw [evalS_old (by kernel_rfl)] at e0
                clear ht hd
                unfold StepG
                refine ⟨fun _ => ?_, fun h => absurd hgd h⟩
                unfold StepOK
                go_simp
                first | exact Below.refl _ _ | exact ⟨⟨fun h => absurd h (by decide), fun _ => rfl⟩, hC, Below.refl _ _⟩
              · intro ρ vals W hC hd ht hk hg hf
                have hgd : vals 13 = .bool true := (hd 13 (by kernel_rfl)).2 (by decide)
                have d15 := (hd 15 (by kernel_rfl)).2 (by decide)
                have e114 := ht 114
                rw [evalS_tmp (i := 15) (by kernel_rfl), d15] at e114
                have d16 := (hd 16 (by kernel_rfl)).2 (by decide)
                have e115 := ht 115
                rw [evalS_tmp (i := 16) (by kernel_rfl), d16] at e115
                clear ht hd d15 d16
                unfold StepG
                refine ⟨fun _ => ?_, fun h => absurd hgd h⟩
                unfold StepOK
                go_simp
                refine (contains_any sv (fullF.map fun x => x.2.name) name W ((YR.out.seen).below (Nat.le_refl _) hC) (by rw [List.length_map, fullF_length]; omega)).mono ?_
                rintro e W2 ⟨rfl, rfl⟩
                exact ⟨_, rfl, by rw [mem_full, hK.out], hC, Below.refl _ _⟩
              · intro ρ vals W hC hd ht hk hg hf
                have hgd : vals 13 = .bool true := (hd 13 (by kernel_rfl)).2 (by decide)
                have d14 := (hd 14 (by kernel_rfl)).2 (by decide)
                have e113 := ht 113
                rw [evalS_tmp (i := 14) (by kernel_rfl), d14] at e113
                have d17 := (hd 17 (by kernel_rfl)).2 (by decide)
                have e116 := ht 116
                rw [evalS_tmp (i := 17) (by kernel_rfl), d17] at e116
                clear ht hd d14 d17
                unfold StepG
                refine ⟨fun _ => ?_, fun h => absurd hgd h⟩
                unfold StepOK
                go_simp
                first | exact Below.refl _ _ | exact ⟨⟨fun h => absurd h (by decide), fun _ => rfl⟩, hC, Below.refl _ _⟩
              · intro ρ vals W hC hd ht hk hg hf
                have d13 := (hd 13 (by kernel_rfl)).2 (by decide)
                have e112 := ht 112
                rw [evalS_tmp (i := 13) (by kernel_rfl), d13] at e112
                have d18 := (hd 18 (by kernel_rfl)).2 (by decide)
                have e117 := ht 117
                rw [evalS_tmp (i := 18) (by kernel_rfl), d18] at e117
                clear ht hd d13 d18
                unfold StepG
                unfold StepOK
                go_simp
                first | exact Below.refl _ _ | exact ⟨⟨fun h => absurd h (by decide), fun _ => rfl⟩, hC, Below.refl _ _⟩
              · intro ρ vals W hC hd ht hk hg hf
                have d19 := (hd 19 (by kernel_rfl)).2 (by decide)
                have e118 := ht 118
                rw [evalS_tmp (i := 19) (by kernel_rfl), d19] at e118
                clear ht hd d19
                unfold StepG
                unfold StepOK
                go_simp
                first | exact Below.refl _ _ | exact ⟨⟨fun h => absurd h (by decide), fun _ => rfl⟩, hC, Below.refl _ _⟩
              · intro ρ vals W hC hd ht hk hg hf
                have hgd : vals 20 = .bool true := (hd 20 (by kernel_rfl)).2 (by decide)
                have e12 := ht 12
                rw [evalS_old (by kernel_rfl)] at e12
                clear ht hd
                unfold StepG
                refine ⟨fun _ => ?_, fun h => absurd hgd h⟩
                unfold StepOK
                go_simp
                first | exact Below.refl _ _ | exact ⟨⟨fun h => absurd h (by decide), fun _ => rfl⟩, hC, Below.refl _ _⟩
              · intro ρ vals W hC hd ht hk hg hf
                have hgd : vals 20 = .bool true := (hd 20 (by kernel_rfl)).2 (by decide)
                have e13 := ht 13
                rw [evalS_old (by kernel_rfl)] at e13
                clear ht hd
                unfold StepG
                refine ⟨fun _ => ?_, fun h => absurd hgd h⟩
                unfold StepOK
                go_simp
                first | exact Below.refl _ _ | exact ⟨⟨fun h => absurd h (by decide), fun _ => rfl⟩, hC, Below.refl _ _⟩
              · intro ρ vals W hC hd ht hk hg hf
                have hgd : vals 20 = .bool true := (hd 20 (by kernel_rfl)).2 (by decide)
                have d21 := (hd 21 (by kernel_rfl)).2 (by decide)
                have e120 := ht 120
                rw [evalS_tmp (i := 21) (by kernel_rfl), d21] at e120
                have d22 := (hd 22 (by kernel_rfl)).2 (by decide)
                have e121 := ht 121
                rw [evalS_tmp (i := 22) (by kernel_rfl), d22] at e121
                clear ht hd d21 d22
                unfold StepG
                refine ⟨fun _ => ?_, fun h => absurd hgd h⟩
                unfold StepOK
                go_simp
                first | exact Below.refl _ _ | exact ⟨⟨fun h => absurd h (by decide), fun _ => rfl⟩, hC, Below.refl _ _⟩
              · intro ρ vals W hC hd ht hk hg hf
                have d20 := (hd 20 (by kernel_rfl)).2 (by decide)
                have e119 := ht 119
                rw [evalS_tmp (i := 20) (by kernel_rfl), d20] at e119
                have d23 := (hd 23 (by kernel_rfl)).2 (by decide)
                have e122 := ht 122
                rw [evalS_tmp (i := 23) (by kernel_rfl), d23] at e122
                clear ht hd d20 d23
                unfold StepG
                unfold StepOK
                go_simp
                first | exact Below.refl _ _ | exact ⟨⟨fun h => absurd h (by decide), fun _ => rfl⟩, hC, Below.refl _ _⟩
              · intro ρ vals W hC hd ht hk hg hf
                have d24 := (hd 24 (by kernel_rfl)).2 (by decide)
                have e123 := ht 123
                rw [evalS_tmp (i := 24) (by kernel_rfl), d24] at e123
                clear ht hd d24
                unfold StepG
                unfold StepOK
                go_simp
                first | exact Below.refl _ _ | exact ⟨⟨fun h => absurd h (by decide), fun _ => rfl⟩, hC, Below.refl _ _⟩
              · intro ρ vals W hC hd ht hk hg hf
                have hgd : vals 25 = .bool true := (hd 25 (by kernel_rfl)).2 (by decide)
                have e12 := ht 12
                rw [evalS_old (by kernel_rfl)] at e12
                clear ht hd
                unfold StepG
                refine ⟨fun _ => ?_, fun h => absurd hgd h⟩
                unfold StepOK
                go_simp
                first | exact Below.refl _ _ | exact ⟨⟨fun h => absurd h (by decide), fun _ => rfl⟩, hC, Below.refl _ _⟩
              · intro ρ vals W hC hd ht hk hg hf
                have hgd : vals 25 = .bool true := (hd 25 (by kernel_rfl)).2 (by decide)
                have d26 := (hd 26 (by kernel_rfl)).2 (by decide)
                have e125 := ht 125
                rw [evalS_tmp (i := 26) (by kernel_rfl), d26] at e125
                clear ht hd d26
                unfold StepG
                refine ⟨fun _ => ?_, fun h => absurd hgd h⟩
                unfold StepOK
                go_simp
                first | exact Below.refl _ _ | exact ⟨⟨fun h => absurd h (by decide), fun _ => rfl⟩, hC, Below.refl _ _⟩
              · intro ρ vals W hC hd ht hk hg hf
                have hgd : vals 27 = .bool false := (hd 27 (by kernel_rfl)).2 (by decide)
                have e11 := ht 11
                rw [evalS_old (by kernel_rfl)] at e11
                clear ht hd
                unfold StepG
                refine ⟨fun _ => ?_, fun h => absurd hgd h⟩
                unfold StepOK
                go_simp
                first | exact Below.refl _ _ | exact ⟨⟨fun h => absurd h (by decide), fun _ => rfl⟩, hC, Below.refl _ _⟩
              · intro ρ vals W hC hd ht hk hg hf
                have hgd : vals 27 = .bool false := (hd 27 (by kernel_rfl)).2 (by decide)
                have d28 := (hd 28 (by kernel_rfl)).2 (by decide)
                have e127 := ht 127
                rw [evalS_tmp (i := 28) (by kernel_rfl), d28] at e127
                clear ht hd d28
                have q := (YR.out.r11.below hC YR.out.r11.lt).cell 0
                rw [YR.out.c0, hnm.out] at q
                unfold StepG
                refine ⟨fun _ => ?_, fun h => absurd hgd h⟩
                unfold StepOK
                go_simp
                first | exact Below.refl _ _ | exact ⟨⟨fun h => absurd h (by decide), fun _ => rfl⟩, hC, Below.refl _ _⟩
              · intro ρ vals W hC hd ht hk hg hf
                have hgd : vals 27 = .bool false := (hd 27 (by kernel_rfl)).2 (by decide)
                have d29 := (hd 29 (by kernel_rfl)).2 (by decide)
                have e128 := ht 128
                rw [evalS_tmp (i := 29) (by kernel_rfl), d29] at e128
                clear ht hd d29
                unfold StepG
                refine ⟨fun _ => ?_, fun h => absurd hgd h⟩
                unfold StepOK
                go_simp
                first | exact Below.refl _ _ | exact ⟨⟨fun h => absurd h (by decide), fun _ => rfl⟩, hC, Below.refl _ _⟩
              · intro ρ vals W hC hd ht hk hg hf
                have hgd : vals 25 = .bool true := (hd 25 (by kernel_rfl)).2 (by decide)
                have d27 := (hd 27 (by kernel_rfl)).2 (by decide)
                have e126 := ht 126
                rw [evalS_tmp (i := 27) (by kernel_rfl), d27] at e126
                have d30 := (hd 30 (by kernel_rfl)).2 (by decide)
                have e129 := ht 129
                rw [evalS_tmp (i := 30) (by kernel_rfl), d30] at e129
                clear ht hd d27 d30
                unfold StepG
                refine ⟨fun _ => ?_, fun h => absurd hgd h⟩
                unfold StepOK
                go_simp
                first | exact Below.refl _ _ | exact ⟨⟨fun h => absurd h (by decide), fun _ => rfl⟩, hC, Below.refl _ _⟩
              · intro ρ vals W hC hd ht hk hg hf
                have d25 := (hd 25 (by kernel_rfl)).2 (by decide)
                have e124 := ht 124
                rw [evalS_tmp (i := 25) (by kernel_rfl), d25] at e124
                have d31 := (hd 31 (by kernel_rfl)).2 (by decide)
                have e130 := ht 130
                rw [evalS_tmp (i := 31) (by kernel_rfl), d31] at e130
                clear ht hd d25 d31
                unfold StepG
                unfold StepOK
                go_simp
                first | exact Below.refl _ _ | exact ⟨⟨fun h => absurd h (by decide), fun _ => rfl⟩, hC, Below.refl _ _⟩
              · intro ρ vals W hC hd ht hk hg hf
                have d32 := (hd 32 (by kernel_rfl)).2 (by decide)
                have e131 := ht 131
                rw [evalS_tmp (i := 32) (by kernel_rfl), d32] at e131
                clear ht hd d32
                unfold StepG
                unfold StepOK
                go_simp
                first | exact Below.refl _ _ | exact ⟨⟨fun h => absurd h (by decide), fun _ => rfl⟩, hC, Below.refl _ _⟩
              · intro ρ vals W hC hd ht hk hg hf
                have hgd : vals 33 = .bool true := (hd 33 (by kernel_rfl)).2 (by decide)
                have e16 := ht 16
                rw [evalS_old (by kernel_rfl)] at e16
                clear ht hd
                unfold StepG
                refine ⟨fun _ => ?_, fun h => absurd hgd h⟩
                unfold StepOK
                go_simp
                first | exact Below.refl _ _ | exact ⟨⟨fun h => absurd h (by decide), fun _ => rfl⟩, hC, Below.refl _ _⟩
              · intro ρ vals W hC hd ht hk hg hf
                have hgd : vals 33 = .bool true := (hd 33 (by kernel_rfl)).2 (by decide)
                clear ht hd
                unfold StepG
                refine ⟨fun _ => ?_, fun h => absurd hgd h⟩
                unfold StepOK
                go_simp
                refine (refNames_any W).mono ?_
                rintro e W2 ⟨v, rfl, hs, hb⟩
                exact ⟨_, rfl, StrsB.mono hs (by exact hC.size), hC.trans (hb.mono hC.size), hb⟩
              · intro ρ vals W hC hd ht hk hg hf
                have hgd : vals 33 = .bool true := (hd 33 (by kernel_rfl)).2 (by decide)
                have d34 := (hd 34 (by kernel_rfl)).2 (by decide)
                have e133 := ht 133
                rw [evalS_tmp (i := 34) (by kernel_rfl), d34] at e133
                have h35 := (hd 35 (by kernel_rfl)).1 rfl
                have e134 := ht 134
                rw [evalS_tmp (i := 35) (by kernel_rfl)] at e134
                obtain ⟨nv, hnv⟩ : ∃ nv, vals 35 = nv := ⟨_, rfl⟩
                rw [hnv] at h35 e134
                clear ht hd d34
                unfold StepG
                refine ⟨fun _ => ?_, fun h => absurd hgd h⟩
                unfold StepOK
                go_simp
                refine (Equal_any (.slice (some ⟨mb, 1, none⟩) 9 9) nv msgL msgL W (YR.out.names.below (Nat.le_refl _) hC) h35.strs (by decide) (by decide)).mono ?_
                rintro e W2 ⟨rfl, n, rfl⟩
                exact ⟨_, rfl, by rw [decide_eq_true rfl], below_drewN_c hC n, below_drewN_c (Below.refl _ _) n⟩
              · intro ρ vals W hC hd ht hk hg hf
                have d33 := (hd 33 (by kernel_rfl)).2 (by decide)
                have e132 := ht 132
                rw [evalS_tmp (i := 33) (by kernel_rfl), d33] at e132
                have d36 := (hd 36 (by kernel_rfl)).2 (by decide)
                have e135 := ht 135
                rw [evalS_tmp (i := 36) (by kernel_rfl), d36] at e135
                clear ht hd d33 d36
                unfold StepG
                unfold StepOK
                go_simp
                first | exact Below.refl _ _ | exact ⟨⟨fun h => absurd h (by decide), fun _ => rfl⟩, hC, Below.refl _ _⟩
              · intro ρ vals W hC hd ht hk hg hf
                have d37 := (hd 37 (by kernel_rfl)).2 (by decide)
                have e136 := ht 136
                rw [evalS_tmp (i := 37) (by kernel_rfl), d37] at e136
                clear ht hd d37
                unfold StepG
                unfold StepOK
                go_simp
                first | exact Below.refl _ _ | exact ⟨⟨fun h => absurd h (by decide), fun _ => rfl⟩, hC, Below.refl _ _⟩
              · intro ρ vals W hC hd ht hk hg hf
                have hgd : vals 38 = .bool true := (hd 38 (by kernel_rfl)).2 (by decide)
                have e16 := ht 16
                rw [evalS_old (by kernel_rfl)] at e16
                clear ht hd
                unfold StepG
                refine ⟨fun _ => ?_, fun h => absurd hgd h⟩
                unfold StepOK
                go_simp
                first | exact Below.refl _ _ | exact ⟨⟨fun h => absurd h (by decide), fun _ => rfl⟩, hC, Below.refl _ _⟩
              · intro ρ vals W hC hd ht hk hg hf
                have hgd : vals 38 = .bool true := (hd 38 (by kernel_rfl)).2 (by decide)
                have d39 := (hd 39 (by kernel_rfl)).2 (by decide)
                have e138 := ht 138
                rw [evalS_tmp (i := 39) (by kernel_rfl), d39] at e138
                clear ht hd d39
                have q := (YR.out.rm.below hC YR.out.rm.lt).cell 0
                rw [YR.out.m0] at q
                unfold StepG
                refine ⟨fun _ => ?_, fun h => absurd hgd h⟩
                unfold StepOK
                go_simp
                first | exact Below.refl _ _ | exact ⟨⟨fun h => absurd h (by decide), fun _ => rfl⟩, hC, Below.refl _ _⟩
              · intro ρ vals W hC hd ht hk hg hf
                have hgd : vals 38 = .bool true := (hd 38 (by kernel_rfl)).2 (by decide)
                have d40 := (hd 40 (by kernel_rfl)).2 (by decide)
                have e139 := ht 139
                rw [evalS_tmp (i := 40) (by kernel_rfl), d40] at e139
                clear ht hd d40
                unfold StepG
                refine ⟨fun _ => ?_, fun h => absurd hgd h⟩
                unfold StepOK
                go_simp
                first | exact Below.refl _ _ | exact ⟨⟨fun h => absurd h (by decide), fun _ => rfl⟩, hC, Below.refl _ _⟩
              · intro ρ vals W hC hd ht hk hg hf
                have d38 := (hd 38 (by kernel_rfl)).2 (by decide)
                have e137 := ht 137
                rw [evalS_tmp (i := 38) (by kernel_rfl), d38] at e137
                have d41 := (hd 41 (by kernel_rfl)).2 (by decide)
                have e140 := ht 140
                rw [evalS_tmp (i := 41) (by kernel_rfl), d41] at e140
                clear ht hd d38 d41
                unfold StepG
                unfold StepOK
                go_simp
                first | exact Below.refl _ _ | exact ⟨⟨fun h => absurd h (by decide), fun _ => rfl⟩, hC, Below.refl _ _⟩
              · intro ρ vals W hC hd ht hk hg hf
                have d42 := (hd 42 (by kernel_rfl)).2 (by decide)
                have e141 := ht 141
                rw [evalS_tmp (i := 42) (by kernel_rfl), d42] at e141
                clear ht hd d42
                unfold StepG
                unfold StepOK
                go_simp
                first | exact Below.refl _ _ | exact ⟨⟨fun h => absurd h (by decide), fun _ => rfl⟩, hC, Below.refl _ _⟩
              · intro ρ vals W hC hd ht hk hg hf
                have hgd : vals 43 = .bool true := (hd 43 (by kernel_rfl)).2 (by decide)
                have e0 := ht 0
                rw [evalS_old (by kernel_rfl)] at e0
                clear ht hd
                unfold StepG
                refine ⟨fun _ => ?_, fun h => absurd hgd h⟩
                unfold StepOK
                go_simp
                first | exact Below.refl _ _ | exact ⟨⟨fun h => absurd h (by decide), fun _ => rfl⟩, hC, Below.refl _ _⟩
              · intro ρ vals W hC hd ht hk hg hf
                have hgd : vals 43 = .bool true := (hd 43 (by kernel_rfl)).2 (by decide)
                have d44 := (hd 44 (by kernel_rfl)).2 (by decide)
                have e143 := ht 143
                rw [evalS_tmp (i := 44) (by kernel_rfl), d44] at e143
                clear ht hd d44
                unfold StepG
                refine ⟨fun _ => ?_, fun h => absurd hgd h⟩
                unfold StepOK
                go_simp
                refine (Message_any name W).mono ?_
                rintro e W2 ⟨rfl, hb⟩
                exact ⟨_, rfl, by rw [num_same], hC.trans (hb.mono hC.size), hb⟩
              · intro ρ vals W hC hd ht hk hg hf
                have hgd : vals 43 = .bool true := (hd 43 (by kernel_rfl)).2 (by decide)
                have e0 := ht 0
                rw [evalS_old (by kernel_rfl)] at e0
                clear ht hd
                unfold StepG
                refine ⟨fun _ => ?_, fun h => absurd hgd h⟩
                unfold StepOK
                go_simp
                first | exact Below.refl _ _ | exact ⟨⟨fun h => absurd h (by decide), fun _ => rfl⟩, hC, Below.refl _ _⟩
              · intro ρ vals W hC hd ht hk hg hf
                have hgd : vals 43 = .bool true := (hd 43 (by kernel_rfl)).2 (by decide)
                have d46 := (hd 46 (by kernel_rfl)).2 (by decide)
                have e145 := ht 145
                rw [evalS_tmp (i := 46) (by kernel_rfl), d46] at e145
                clear ht hd d46
                unfold StepG
                refine ⟨fun _ => ?_, fun h => absurd hgd h⟩
                unfold StepOK
                go_simp
                refine (refNumber_any name W).mono ?_
                rintro e W2 ⟨rfl, hb⟩
                exact ⟨_, rfl, rfl, hC.trans (hb.mono hC.size), hb⟩
              · intro ρ vals W hC hd ht hk hg hf
                have hgd : vals 43 = .bool true := (hd 43 (by kernel_rfl)).2 (by decide)
                have d45 := (hd 45 (by kernel_rfl)).2 (by decide)
                have e144 := ht 144
                rw [evalS_tmp (i := 45) (by kernel_rfl), d45] at e144
                have d47 := (hd 47 (by kernel_rfl)).2 (by decide)
                have e146 := ht 146
                rw [evalS_tmp (i := 47) (by kernel_rfl), d47] at e146
                clear ht hd d45 d47
                unfold StepG
                refine ⟨fun _ => ?_, fun h => absurd hgd h⟩
                unfold StepOK
                go_simp
                first | exact Below.refl _ _ | exact ⟨⟨fun h => absurd h (by decide), fun _ => rfl⟩, hC, Below.refl _ _⟩
              · intro ρ vals W hC hd ht hk hg hf
                have d43 := (hd 43 (by kernel_rfl)).2 (by decide)
                have e142 := ht 142
                rw [evalS_tmp (i := 43) (by kernel_rfl), d43] at e142
                have d48 := (hd 48 (by kernel_rfl)).2 (by decide)
                have e147 := ht 147
                rw [evalS_tmp (i := 48) (by kernel_rfl), d48] at e147
                clear ht hd d43 d48
                unfold StepG
                unfold StepOK
                go_simp
                first | exact Below.refl _ _ | exact ⟨⟨fun h => absurd h (by decide), fun _ => rfl⟩, hC, Below.refl _ _⟩
            · intro vals W hC hR
              have r0 : vals 0 = .int .i64 32 := (hR 0 (by omega)).2 (by decide)
              have r1 : vals 1 = .slice (some ⟨g, 0, none⟩) 32 32 := (hR 1 (by omega)).2 (by decide)
              have r2 : vals 2 = .int .i64 32 := (hR 2 (by omega)).2 (by decide)
              have r3 : vals 3 = .bool true := (hR 3 (by omega)).2 (by decide)
              have r4 : vals 4 = .bool true := (hR 4 (by omega)).2 (by decide)
              have r5 : vals 5 = .int .i64 mc := (hR 5 (by omega)).2 (by decide)
              have r6 : vals 6 = .int .i64 32 := (hR 6 (by omega)).2 (by decide)
              have r7 : vals 7 = .int .u8 stop := (hR 7 (by omega)).2 (by decide)
              have r8 : vals 8 = .int .i64 stop := (hR 8 (by omega)).2 (by decide)
              have r9 : vals 9 = .int .i64 ((stop : Int) + 1) := (hR 9 (by omega)).2 (by decide)
              have r10 : vals 10 = .int .i64 mc := (hR 10 (by omega)).2 (by decide)
              have r11 : vals 11 = .bool true := (hR 11 (by omega)).2 (by decide)
              have r12 : vals 12 = .bool true := (hR 12 (by omega)).2 (by decide)
              have r13 : vals 13 = .bool true := (hR 13 (by omega)).2 (by decide)
              have r14 : vals 14 = .bool false := (hR 14 (by omega)).2 (by decide)
              have r15 : vals 15 = sv := (hR 15 (by omega)).2 (by decide)
              have r16 : vals 16 = .string name := (hR 16 (by omega)).2 (by decide)
              have r17 : vals 17 = .bool false := (hR 17 (by omega)).2 (by decide)
              have r18 : vals 18 = .bool true := (hR 18 (by omega)).2 (by decide)
              have r19 : vals 19 = .bool true := (hR 19 (by omega)).2 (by decide)
              have r20 : vals 20 = .bool true := (hR 20 (by omega)).2 (by decide)
              have r21 : vals 21 = .bool false := (hR 21 (by omega)).2 (by decide)
              have r22 : vals 22 = .bool false := (hR 22 (by omega)).2 (by decide)
              have r23 : vals 23 = .bool true := (hR 23 (by omega)).2 (by decide)
              have r24 : vals 24 = .bool true := (hR 24 (by omega)).2 (by decide)
              have r25 : vals 25 = .bool true := (hR 25 (by omega)).2 (by decide)
              have r26 : vals 26 = .bool false := (hR 26 (by omega)).2 (by decide)
              have r27 : vals 27 = .bool false := (hR 27 (by omega)).2 (by decide)
              have r28 : vals 28 = .pointer (some ⟨w5.heap.size, 0, none⟩) := (hR 28 (by omega)).2 (by decide)
              have r29 : vals 29 = .string ⟨#[]⟩ := (hR 29 (by omega)).2 (by decide)
              have r30 : vals 30 = .bool true := (hR 30 (by omega)).2 (by decide)
              have r31 : vals 31 = .bool true := (hR 31 (by omega)).2 (by decide)
              have r32 : vals 32 = .bool true := (hR 32 (by omega)).2 (by decide)
              have r33 : vals 33 = .bool true := (hR 33 (by omega)).2 (by decide)
              have r34 : vals 34 = .slice (some ⟨mb, 1, none⟩) 9 9 := (hR 34 (by omega)).2 (by decide)
              have r36 : vals 36 = .bool true := (hR 36 (by omega)).2 (by decide)
              have r37 : vals 37 = .bool true := (hR 37 (by omega)).2 (by decide)
              have r38 : vals 38 = .bool true := (hR 38 (by omega)).2 (by decide)
              have r39 : vals 39 = .pointer (some ⟨mb, 0, none⟩) := (hR 39 (by omega)).2 (by decide)
              have r40 : vals 40 = .string ⟨#[]⟩ := (hR 40 (by omega)).2 (by decide)
              have r41 : vals 41 = .bool true := (hR 41 (by omega)).2 (by decide)
              have r42 : vals 42 = .bool true := (hR 42 (by omega)).2 (by decide)
              have r43 : vals 43 = .bool true := (hR 43 (by omega)).2 (by decide)
              have r44 : vals 44 = .string name := (hR 44 (by omega)).2 (by decide)
              have r45 : vals 45 = .int .i64 (numR name : Nat) := (hR 45 (by omega)).2 (by decide)
              have r46 : vals 46 = .string name := (hR 46 (by omega)).2 (by decide)
              have r47 : vals 47 = .int .i64 (numR name : Nat) := (hR 47 (by omega)).2 (by decide)
              have r48 : vals 48 = .bool true := (hR 48 (by omega)).2 (by decide)
              have r49 : vals 49 = .bool true := (hR 49 (by omega)).2 (by decide)
              clear hR
              obtain ⟨nv, r35⟩ : ∃ nv, vals 35 = nv := ⟨_, rfl⟩
              simp only [List.take, putsS, Act.put, List.setIfInBounds_toArray, List.set_cons_zero, List.set_cons_succ, Nat.reduceAdd, r0, r1, r2, r3, r4, r5, r6, r7, r8, r9, r10, r11, r12, r13, r14, r15, r16, r17, r18, r19, r20, r21, r22, r23, r24, r25, r26, r27, r28, r29, r30, r31, r32, r33, r34, r35, r36, r37, r38, r39, r40, r41, r42, r43, r44, r45, r46, r47, r48, r49]
              clear r0 r1 r2 r3 r4 r5 r6 r7 r8 r9 r10 r11 r12 r13 r14 r15 r16 r17 r18 r19 r20 r21 r22 r23 r24 r25 r26 r27 r28 r29 r30 r31 r32 r33 r34 r35 r36 r37 r38 r39 r40 r41 r42 r43 r44 r45 r46 r47 r48 r49
              have R2 := YR.out.r4.below hC YR.out.r4.lt
              have c8 := R2.cell 0
              have f8 := R2.frozen 0
              have l8 := R2.lt
              simp only [List.getElem?_cons_zero] at c8
              have hr := Lib.hid (R2.set 0 (.bool true))
              have hbb := Lib.hid ((YR.out.be.trans (hC.mono YR.out.sz)).setCell (p := ⟨w.heap.size + 1, 0, none⟩) (by show w.heap.size ≤ w.heap.size + 1; omega) (.bool true))
              have hDD := Lib.hid (And.intro ((Below.heap_setCell W ⟨w.heap.size + 1, 0, none⟩ (.bool true) D (by have := YR.out.dn1; show D ≠ w.heap.size + 1; omega)).trans ((hC.block D (Array.getElem?_eq_some_iff.1 YR.out.d1).1).trans YR.out.d1)) ((Below.heap_setCell W ⟨w.heap.size + 1, 0, none⟩ (.bool true) D2 (by have := YR.out.dn2; show D2 ≠ w.heap.size + 1; omega)).trans ((hC.block D2 (Array.getElem?_eq_some_iff.1 YR.out.d2).1).trans YR.out.d2)))
              clear R2
              refine wpOps_one _ (by rfl) (by rfl) ?_
              go_wp2_with fail
              gi_wp2_with fail
              refine leaves_marks [D2, D] _ (by have := YR.out.dd; simp; omega) (by intro E hE; simp only [List.mem_cons, List.not_mem_nil, or_false] at hE; rcases hE with rfl | rfl; exact hDD.out.2; exact hDD.out.1) fun W10 h1 h2 h3 h4 h5 => ?_
              have hno : ∀ k, k ≤ w.heap.size + 1 → k ∉ [D2, D] := fun k hk hm => by have := YR.out.dn1; have := YR.out.dn2; simp only [List.mem_cons, List.not_mem_nil, or_false] at hm; omega
              exact ⟨_, results_boolC rfl _ _ (w.heap.size + 1) true rfl ((h5 _ (hno _ (Nat.le_refl _))).trans hr.out), rfl, ⟨h1.trans hbb.out.os, h2.trans hbb.out.tape, h3.trans hbb.out.output, by rw [h4]; exact hbb.out.size, fun k hk => (h5 k (hno k (by omega))).trans (hbb.out.block k hk)⟩⟩
theorem CatalogTable_walkI (name : ByteArray) (a1 : Int) (w : World) (w0 : name.size ≤ 140737488355328) (w1 : (Lit.int .u8 a1).wf = true) (hG : G w) (hM : M w) :
    Calls Tryz.prog 3 #[.string name, .int .u8 a1] w fun e w' => e = .returned (.bool true) ∧ Below w.heap.size w w' := by
  have r2 : 0 ≤ a1 ∧ a1 ≤ 255 := by simpa [Lit.wf, IntKind.min, IntKind.max, IntKind.signed, IntKind.bits] using w1
  obtain ⟨n2, rfl⟩ := Int.eq_ofNat_of_zero_le r2.1
  exact CatalogTable_walk name n2 (by omega) w0 w hG hM
end Go.Proofs.YtheidjnapoipaaaGreatDoor

namespace Go.Proofs.YtheidjnapoipaaaGreatDoor
open Go.RowKit
set_option linter.unusedVariables false

theorem G_of_tab_f {W : World} (h : Lib.TabIs Tryz.prog W "cashier/sha.starts" .u32 [1779033703, 3144134277, 1013904242, 2773480762, 1359893119, 2600822924, 528734635, 1541459225]) : G W := by
  unfold Lib.TabIs World.var? at h
  rw [show Tryz.prog.globalNamed "cashier/sha.starts" = some 6 by kernel_rfl] at h
  simp only [Option.bind_some] at h
  split at h
  · rename_i cs t fr hq
    refine ⟨t, fr, ?_⟩
    rw [hq]
    obtain rfl := Option.some.inj h
    rfl
  · cases h
theorem laidMet_tail_f {P : Program} {x : String × DataW Unit} {r : List (String × DataW Unit)} {w : World} (h : laidMet P (x :: r) w) : laidMet P r w := by
  obtain ⟨ps, hv, hn, hc⟩ := h
  obtain ⟨n, d⟩ := x
  obtain ⟨g, t, cs, fuel, p, q, _, _, _, _, hq, rfl⟩ := hv
  exact ⟨q, hq, (List.nodup_append.1 hn).2.1, fun b off hb => hc b off (List.mem_append.2 (.inr hb))⟩
theorem G_of_laid8 {W : World} (h : laidMetH Tryz.prog [("math/bits.deBruijn32tab", Rows.laid_math_bits_deBruijn32tab), ("math/bits.deBruijn64tab", Rows.laid_math_bits_deBruijn64tab), ("internal/strconv.uint64pow10", Rows.laid_internal_strconv_uint64pow10), ("unicode/utf8.acceptRanges", Rows.laid_unicode_utf8_acceptRanges), ("strconv.ErrRange", Rows.laid_strconv_ErrRange), ("strconv.ErrSyntax", Rows.laid_strconv_ErrSyntax), ("cashier/sha.starts", Rows.laid_cashier_sha_starts), ("unicode/utf8.first", Rows.laid_unicode_utf8_first)] W) : G W :=
  G_of_tab_f (Lib.tabIs_of_head (g := 6) (t := 169) (e := 136) (n := 8) (rest := [("unicode/utf8.first", Rows.laid_unicode_utf8_first)]) (by kernel_rfl) (by kernel_rfl) Tryz.underlying169 Tryz.underlying136 (by kernel_rfl) (by kernel_rfl) (laidMet_tail_f (laidMet_tail_f (laidMet_tail_f (laidMet_tail_f (laidMet_tail_f (laidMet_tail_f h)))))))
end Go.Proofs.YtheidjnapoipaaaGreatDoor

namespace Go.Proofs.YtheidjnapoipaaaGreatDoor
open Go.ChangeShapes Go.WideShapes Go.RowKit
set_option linter.unusedVariables false

section
variable {H : Type} {enc : TypeId × Value → H}
theorem returns_shaped_and {a : Assume} {C : Checked} {os : Os} {f : FuncId} {fn : Func} {s : ChangeSpec} {conds : List PathCond} {apart fresh handsOn again : Bool} {X : World → Array Value → Prop}
    (hX : ∀ (w w' : World) (args : Array Value), w.heap = w'.heap → X w args → X w' args)
    (own : ownKnob C.prog.godebug = none) (started : os.Started) (noInit : C.prog.inits.idxOf? f = none) (hfn : C.prog.funcs[f]? = some fn)
    (witness : ∃ (w : World) (tape : Tape) (i : Input), w.os = os ∧ (w.forCall tape i).Shaped C.prog ∧ i.vars = [] ∧ Input.okWide C.prog (w.forCall tape i) .any w.heap.size f i ∧
      ((s.pre enc C.prog fn conds apart (w.forCall tape i).memory i.args ∧ X (w.forCall tape i).memory i.args) ∧ sizedMet enc C.prog fn (OpenSpec.ofChange s) apart (w.forCall tape i).memory i.args) ∧ a.holds C.prog (lone (Frame.enter C.prog f i.args .normal) [] (w.forCall tape i)))
    (contract : ∀ (W : World) (base : Nat) (args : Array Value) (ds gs : List (DataW H)) (before : List MemPlace),
      (∀ (j : Nat) t v, fn.params[j]? = some t → args[j]? = some v → Value.okWide C.prog W .any base t v) →
      DataW.Whole enc C.prog fn.params.toList s.vars apart W args.toList ds gs before →
      conds.all (PathCond.test C.prog ⟨fn.params.toList, ds, s.plain.varTypes C.prog, gs⟩) = true →
      (DataW.weightsEach C.prog (fn.params.toList ++ s.plain.varTypes C.prog) (ds ++ gs)).all (· ≤ reachBytes) = true → X W args → W.ShapedOpen C.prog →
      Calls C.prog f args W fun e W' => ∃ v, e = .returned v ∧ s.post enc C.prog fn apart fresh handsOn again W args v W') :
    ReturnsInHanded a C os f .any (fun w args => (s.pre enc C.prog fn conds apart w args ∧ X w args) ∧ sizedMet enc C.prog fn (OpenSpec.ofChange s) apart w args) (s.post enc C.prog fn apart fresh handsOn again) := by
  refine returnsInHanded_of_calls own started noInit witness ?_
  intro w tape i _ hsh _ hok hpre _
  obtain ⟨_, _, _, fn', hfn', _, _, _, _, hval⟩ := hok
  obtain rfl : fn' = fn := Option.some.inj (hfn'.symm.trans hfn)
  obtain ⟨⟨⟨ds, gs, before, hw, hc⟩, hx⟩, hz⟩ := hpre
  refine (contract (w.forCall tape i) w.heap.size i.args ds gs before hval (DataW.Whole.of_heap (w' := w.forCall tape i) (by rfl) hw) hc (hz.weights hw) (hX _ _ _ (by rfl) hx) hsh).mono fun e W' ⟨v, he, hp⟩ => ?_
  subst he
  exact ChangeSpec.post_blind hp
end

theorem M_of_shaped {W : World} (h : W.ShapedOpen Tryz.prog) : M W :=
  cell_of_shapedOpen_int (t := 3) (zero := #[.int .i64 0]) h (of_decide_eq_true (by kernel_rfl)) (by kernel_rfl) rfl (by kernel_rfl) (by kernel_rfl) Tryz.underlying3
end Go.Proofs.YtheidjnapoipaaaGreatDoor

namespace Go.Proofs.YtheidjnapoipaaaGreatDoor.catalogTable
open Go.ChangeShapes Go.WideShapes Go.ChangeAt Go.RowKit
open Go.ChangeMaps (open_string shut_string)
set_option linter.unusedVariables false

theorem own : ownKnob Tryz.prog.godebug = none := by kernel_rfl

set_option maxRecDepth 100000 in
set_option maxHeartbeats 4000000 in
theorem lifted (os : Os) (started : os.Started) (H : Type) (enc : TypeId × Value → H) :
    ReturnsInHanded {} Tryz.checked os 3 .any (fun w args => (Rows.catalogTableSpec.pre enc Tryz.prog Tryz.f3 Rows.catalogTableRow.domain false w args ∧ laidMetH Tryz.prog Rows.catalogTableRow.laid w) ∧ sizedMet enc Tryz.prog Tryz.f3 (OpenSpec.ofChange Rows.catalogTableSpec) false w args) (Rows.catalogTableSpec.post enc Tryz.prog Tryz.f3 false true false false) := by
  refine returns_shaped_and (C := Tryz.checked) (X := fun w _ => laidMetH Tryz.prog Rows.catalogTableRow.laid w) (fun _ _ _ hh h => h.of_heap hh) own started (by kernel_rfl) Tryz.func3
    (ChangeSpec.witness_shaped (enc := enc) (C := Tryz.checked) (os := os) (X := fun w _ => laidMetH Tryz.prog Rows.catalogTableRow.laid w) false (World.laidAll Tryz.prog os Rows.catalogTableRow.laid) #[.string ByteArray.empty, .int .u8 0] 8 (World.laidAll_os _ _ _) (World.shaped_of_ZipB (by kernel_rfl) (by kernel_rfl)) (by kernel_rfl) (by kernel_rfl) (by kernel_rfl) (by rw [MakeChecks.laidMetH_plain _ _ _ (by kernel_rfl)]; exact laidMet_laidAll _ (by kernel_rfl) (by kernel_rfl))) ?_
  intro W base args ds gs before hval0 hW hcnd hsz0 hX1 hX2
  have hsz : (DataW.weightsEach Tryz.prog (Tryz.f3.params.toList ++ Rows.catalogTableSpec.plain.varTypes Tryz.prog) (ds ++ gs)).all (· ≤ reachBytes) = true := hsz0
  have hval : ∀ (j : Nat) t v, Tryz.f3.params[j]? = some t → args[j]? = some v → Value.okWide Tryz.prog W .any base t v := hval0
  have hW' := hW
  obtain ⟨p, q, hA0, hV, rfl, hfz, hnd⟩ := hW
  have hA : DataW.TrodAll enc Tryz.prog W 0 (fun _ => true) true Tryz.f3.params.toList args.toList ds p := hA0
  rw [Tryz.params3] at hA hval hsz
  obtain ⟨v0, vs0, d0, ds0, p0, q0, hargs, rfl, rfl, h0, r0⟩ := trodAll_cons hA
  obtain ⟨v1, vs1, d1, ds1, p1, q1, rfl, rfl, rfl, h1, r1⟩ := trodAll_cons r0
  obtain ⟨rfl, rfl, rfl⟩ := trodAll_nil r1
  obtain rfl : args = #[v0, v1] := by cases args; simp_all
  obtain ⟨rfl, rfl⟩ := trodVars_none hV
  obtain ⟨a0, rfl, rfl, rfl, m0⟩ := open_string Tryz.underlying9 (hval 0 9 v0 rfl rfl) h0
  obtain ⟨a1, rfl, rfl, rfl, w1⟩ := open_int Tryz.underlying5 (hval 1 5 v1 rfl rfl) h1
  have w0 : a0.size ≤ 140737488355328 := by
    have h47 := reachBytes_lt
    have hh := sized_string hsz (j := 0) (t := 9) rfl rfl
    rw [Array.length_toList] at hh
    exact Nat.le_of_lt (Nat.lt_of_le_of_lt hh h47)
  clear hA0 hval0 hsz hsz0
  simp only [List.append_nil] at hW'
  refine (CatalogTable_walkI a0 a1 W w0 w1 (G_of_laid8 hX1) (M_of_shaped hX2)).mono fun e W' ⟨he, bel⟩ => ?_
  subst he
  exact ⟨_, rfl, _, _, _, [], _, [], hW', trodAll_mk1 (shut_bool Tryz.underlying4 _), (trodAll_cons_mk (shut_string Tryz.underlying9 m0) (trodAll_cons_mk (shut_int Tryz.underlying5 w1) trodAll_mk0)), rfl, bel.frame _, fun h => by cases h⟩

set_option maxRecDepth 100000 in
set_option maxHeartbeats 4000000 in
theorem closed : joinedFacts Tryz.prog 3 Tryz.f3 Rows.catalogTableSpec Rows.catalogTableRow = true := by
  unfold joinedFacts
  simp only [Bool.and_eq_true]
  repeat' apply And.intro
  all_goals as_aux_lemma => kernel_rfl

set_option maxHeartbeats 4000000 in
theorem over : Rows.catalogTableRow.holds Tryz.pinned (OpenSpec.ofChange Rows.catalogTableSpec) :=
  OpenClaim.holds_of_wide 3 Tryz.f3 rfl rfl rfl rfl rfl rfl rfl ⟨rfl, rfl, rfl, rfl, rfl⟩ rfl rfl rfl rfl rfl (by kernel_rfl) Tryz.func3 closed
    (of_decide_eq_true (by kernel_rfl)) (by unfold Func.isWrapper; first | (rw [if_pos (by decide +kernel)]; kernel_rfl) | (rw [if_neg (by decide +kernel)]; exact ⟨rfl, rfl⟩))
    (fun os started H enc _ => lifted os started H enc)

set_option maxHeartbeats 4000000 in
theorem proved : Rows.CatalogTableCardSaid :=
  Claim7.holds_tied_plain_at .later [] [.data, .data, .data, .data, .sentinel, .sentinel, .data, .pinned] true (true, "bd3ce312389fa0c1fa5637e05b130d32b1303bad4957126e2cf8fcada179ac0e") true
    over (fun _ h => by cases h) (by kernel_rfl) (fun _ h => by cases h) catalogTable_row_tie rfl ⟨rfl, rfl⟩ (by kernel_rfl) rfl
    (fun f fn hf hfn => by
      obtain rfl : f = 3 := Option.some.inj ((show Tryz.prog.funcNamed "cashier/cashierlaw15.CatalogTable" = some 3 by kernel_rfl).symm.trans hf) |>.symm
      obtain rfl : fn = Tryz.f3 := (Option.some.inj (Tryz.func3.symm.trans hfn)).symm
      exact ⟨by kernel_rfl, fun j t ht => by
        rw [Tryz.params3] at ht
        have hm : t ∈ [9, 5] := by simpa using Array.mem_of_getElem? ht
        have hall : ([9, 5].all fun u => !Tryz.prog.wantsStandIn u) = true := by kernel_rfl
        exact (show Tryz.prog.wantsStandIn t = false by simpa using List.all_eq_true.1 hall t hm)⟩)
    (by kernel_rfl)

end Go.Proofs.YtheidjnapoipaaaGreatDoor.catalogTable
