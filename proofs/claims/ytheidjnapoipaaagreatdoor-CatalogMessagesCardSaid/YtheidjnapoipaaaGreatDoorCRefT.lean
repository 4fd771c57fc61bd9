/- The document's table: its words, its rows. -/
import Derived.Test.YtheidjnapoipaaaGreatDoorCOf
import Derived.Test.YtheidjnapoipaaaGreatDoorDSmall
import Derived.Great.BuildSlice
import Derived.Lib.AppendZerosOnto
import Derived.Laws.AppendOwn
namespace Go.Proofs.YtheidjnapoipaaaGreatDoor
open Go.RowKit
set_option linter.unusedVariables false
set_option linter.unusedSimpArgs false

/-- The words of a text, blanks between them: up to its k-th byte; where the next one begins. -/
def wSt (s : ByteArray) : Nat → List ByteArray × Nat
  | 0 => ([], 0)
  | k + 1 => if k = s.size ∨ (s.data.toList.getD k 0).toNat = 32 then ((wSt s k).1 ++ [s.extract (wSt s k).2 k], k + 1) else wSt s k
def wordsB (s : ByteArray) : List ByteArray := (wSt s (s.size + 1)).1
theorem wSt_le (s : ByteArray) : ∀ k, (wSt s k).2 ≤ k ∧ (wSt s k).1.length ≤ k
  | 0 => ⟨Nat.le_refl _, Nat.le_refl _⟩
  | k + 1 => by
    have h := wSt_le s k
    rw [wSt]
    split
    · simp only [List.length_append, List.length_singleton]; omega
    · omega
theorem strsB_own {w : World} {v : Value} {l : List ByteArray} {B k : Nat} (h : w.ownsRow B 9 1 v k (l.map Value.string)) (hk : k = l.length) : StrsB B w v l := by
  subst hk
  rcases h.2 with ⟨h0, h1⟩ | ⟨g', cap, cur, hv, hgB, _, hn, hcap, _, _⟩
  · subst h0
    exact ⟨none, 0, 0, 0, by rw [h1], fun h => by omega, fun j hj => by omega⟩
  · subst hv
    have hl := h.lt g' rfl
    refine ⟨some ⟨g', 0, none⟩, cap, g', 0, rfl, fun _ => ⟨rfl, hgB, hl.2⟩, fun j hj => ?_⟩
    rw [Nat.zero_add, h.cellAt j (by omega)]
    simp [List.getD, List.getElem?_eq_getElem hj]
theorem strC_info : (Tryz.prog.info? 9).map (fun i => (i.zero, i.size, i.bytes)) = some (some (.string ⟨#[]⟩), 1, 16) := by kernel_rfl
def fieldC2 (f : FD) (v : Value) : List Value := [.string f.name, .int .i64 f.rule.kind, .int .i64 f.rule.least, .int .i64 f.rule.most, v, .string f.inn]
def WordsPost (s : ByteArray) (w : World) (e : Ending) (w' : World) : Prop := ∃ v, e = .returned v ∧ StrsB w.heap.size w' v (wordsB s) ∧ Below w.heap.size w w'

set_option maxRecDepth 20000 in
set_option maxHeartbeats 2000000 in
theorem words_any (s : ByteArray) (hs : s.size ≤ 1000) (w : World) :
    Calls Tryz.prog 28 #[.string s] w (WordsPost s w) := by
  obtain ⟨i0, hi, hz0, hz1, hz2⟩ := info_parts strC_info
  go_enter Tryz.func28, Tryz.ntmps28
  go_wp2
  go_loopw [3, 4, 5] (fun v a i wr => ∃ k : Nat, k ≤ s.size + 1 ∧ i = .int .i64 k ∧ a = .int .i64 (wSt s k).2 ∧ Hid (wr.ownsRow w.heap.size 9 1 v (wSt s k).1.length ((wSt s k).1.map Value.string)) ∧ Hid (Below w.heap.size w wr)) (fun v a i _ => s.size + 1 - (intOf i).toNat)
  case atStart => exact ⟨0, by omega, by go_num, by go_num, Lib.hid (World.ownsRow_nil _ _ _ _), Lib.hid (Below.refl _ _)⟩
  case round =>
    obtain ⟨k, hk, rfl, rfl, HR, HB⟩ := hrel
    obtain ⟨hat, hlen⟩ := wSt_le s k
    by_cases hlt : k ≤ s.size
    · have hltI : (k : Int) ≤ (s.size : Int) := by omega
      have hsI : (s.size : Int) ≤ 1000 := by omega
      obtain ⟨X, hX⟩ : ∃ X, s.extract (wSt s k).2 k = X := ⟨_, rfl⟩
      by_cases he : k = s.size
      · have hst : wSt s (k + 1) = ((wSt s k).1 ++ [X], k + 1) := by rw [wSt, if_pos (.inl he), hX]
        obtain ⟨at', hat'⟩ : ∃ a, (wSt s k).2 = a := ⟨_, rfl⟩
        obtain ⟨l, hl⟩ : ∃ l, (wSt s k).1 = l := ⟨_, rfl⟩
        rw [hl] at HR hst hlen
        rw [hat'] at hat hX ⊢
        subst he
        have heB : ((s.size : Int) == (s.size : Int)) = true := by simp
        have hatI : (at' : Int) ≤ (s.size : Int) := by omega
        have hsB := HB.out.size
        clear hat' hl
        go_wp2_with (at_builtin; refine wpList_append_own _ rfl (.tmp 22) (.tmp 27) 25 rfl w.heap.size 9 i0 (.string ⟨#[]⟩) 1 16 Tryz.underlying25 hi hz0 hz1 hz2 rfl (by decide) _ _ _ rfl (HR.out.alloc _) ⟨wr.heap.size, 0, none⟩ 1 1 [.string X] rfl rfl (World.news_of_block (cs := #[.string X]) (t := 9) (fr := (0, 0)) (heap_alloc_new wr _)) (by simp [Value.oneCell']) (by unfold maxLen; omega) (by omega) (by simp; omega) ?_; intro v4 w4 hown4 hg4 hnil4)
        have hz : (wr.alloc (.cells #[.string X] 9)).heap.size = wr.heap.size + 1 := by simp
        have hB4 : Below w.heap.size w w4 := (HB.out.alloc HB.out.size _).grown hg4 (by rw [hz]; have := HB.out.size; omega) (fun i e => (HR.out.lt i e).1)
        go_roundw
        case rel => exact ⟨s.size + 1, by omega, by go_num, by rw [hst]; simp, Lib.hid (by rw [hst]; simpa using hown4), Lib.hid hB4⟩
        case measure => (simp [intOf]; try omega)
      · have hlt2 : k < s.size := by omega
        have heB : ((k : Int) == (s.size : Int)) = false := by rw [beq_eq_false_iff_ne]; omega
        have hne : ¬ (k : Int) = (s.size : Int) := by omega
        have hix := run_index_str_d (P := Tryz.prog) 9 s k Tryz.underlying9 hlt2
        obtain ⟨c, hc⟩ : ∃ c, (s.data.toList.getD k 0).toNat = c := ⟨_, rfl⟩
        rw [hc] at hix
        by_cases h32 : c = 32
        · have hst : wSt s (k + 1) = ((wSt s k).1 ++ [X], k + 1) := by rw [wSt, if_pos (.inr (hc.trans h32)), hX]
          obtain ⟨at', hat'⟩ : ∃ a, (wSt s k).2 = a := ⟨_, rfl⟩
          obtain ⟨l, hl⟩ : ∃ l, (wSt s k).1 = l := ⟨_, rfl⟩
          rw [hl] at HR hst hlen
          rw [hat'] at hat hX ⊢
          have hatI : (at' : Int) ≤ (k : Int) := by omega
          have hkS : (k : Int) < (s.size : Int) := by omega
          have hsB := HB.out.size
          subst h32
          clear hat' hl he hc
          go_wp2_with (at_builtin; refine wpList_append_own _ rfl (.tmp 22) (.tmp 27) 25 rfl w.heap.size 9 i0 (.string ⟨#[]⟩) 1 16 Tryz.underlying25 hi hz0 hz1 hz2 rfl (by decide) _ _ _ rfl (HR.out.alloc _) ⟨wr.heap.size, 0, none⟩ 1 1 [.string X] rfl rfl (World.news_of_block (cs := #[.string X]) (t := 9) (fr := (0, 0)) (heap_alloc_new wr _)) (by simp [Value.oneCell']) (by unfold maxLen; omega) (by omega) (by simp; omega) ?_; intro v4 w4 hown4 hg4 hnil4)
          have hz : (wr.alloc (.cells #[.string X] 9)).heap.size = wr.heap.size + 1 := by simp
          have hB4 : Below w.heap.size w w4 := (HB.out.alloc HB.out.size _).grown hg4 (by rw [hz]; have := HB.out.size; omega) (fun i e => (HR.out.lt i e).1)
          go_roundw
          case rel => exact ⟨k + 1, by omega, by go_num, by rw [hst]; simp, Lib.hid (by rw [hst]; simpa using hown4), Lib.hid hB4⟩
          case measure => (simp [intOf]; try omega)
        · have hst : wSt s (k + 1) = wSt s k := by rw [wSt, if_neg (by rw [hc]; omega)]
          have h32I : ((c : Int) == 32) = false := by rw [beq_eq_false_iff_ne]; omega
          obtain ⟨at', hat'⟩ : ∃ a, (wSt s k).2 = a := ⟨_, rfl⟩
          have HR2 := HR
          rw [← hst] at HR2
          have hst2 := Lib.hid (show (wSt s (k + 1)).2 = at' by rw [hst]; exact hat')
          rw [hat'] at hat ⊢
          have hkS : (k : Int) < (s.size : Int) := by omega
          clear hst hat' hX h32 hc HR
          go_wp2
          go_roundw
          case rel => exact ⟨k + 1, by omega, by go_num, by rw [hst2.out], HR2, HB⟩
          case measure => (simp [intOf]; try omega)
    · have hge : ¬ (k : Int) ≤ (s.size : Int) := by omega
      obtain rfl : k = s.size + 1 := by omega
      obtain ⟨l, hl⟩ : ∃ l, (wSt s (s.size + 1)).1 = l := ⟨_, rfl⟩
      have hwl := Lib.hid (show wordsB s = l from hl)
      rw [hl] at HR
      clear hl hlt
      go_wp2
      go_ret
      exact ⟨_, rfl, by rw [hwl.out]; exact strsB_own HR.out rfl, HB.out⟩

theorem fieldC_rowR (f : FD) (v : Value) : fieldC2 f v = [.string f.name, .int .i64 f.rule.kind, .int .i64 f.rule.least, .int .i64 f.rule.most, v, .string f.inn] := rfl
def RowPost (f : FD) (w : World) (e : Ending) (w' : World) : Prop := ∃ v, e = .returned (.agg (fieldC2 f v).toArray) ∧ StrsB w.heap.size w' v f.rule.texts ∧ Below w.heap.size w w'
def zeroR : List Value := [.string ⟨#[]⟩, .int .i64 0, .int .i64 0, .int .i64 0, .slice none 0 0, .string ⟨#[]⟩]
theorem rowR_info : (Tryz.prog.info? 36).map (·.size) = some 6 := by kernel_rfl

set_option maxRecDepth 20000 in
set_option maxHeartbeats 2000000 in
theorem row_nil (name inn : ByteArray) (k a b : Int) (w : World) :
    Calls Tryz.prog 22 #[.string name, .int .i64 k, .int .i64 a, .int .i64 b, .string ⟨#[]⟩, .string inn] w (RowPost ⟨name, ⟨k, a, b, []⟩, inn⟩ w) := by
  go_enter Tryz.func22, Tryz.ntmps22
  go_wp2
  refine bodyPost_ret (v := .agg #[.string name, .int .i64 k, .int .i64 a, .int .i64 b, .slice none 0 0, .string inn]) (by simp [results, Tryz.results22, go_sem]) rfl ?_
  exact ⟨.slice none 0 0, rfl, ⟨none, 0, 0, 0, rfl, fun h => absurd h (by exact Nat.lt_irrefl 0), fun j h => absurd h (by exact Nat.not_lt_zero j)⟩, ((Below.refl _ _).alloc (Nat.le_refl _) _).alloc (by simp) _⟩

set_option maxRecDepth 20000 in
set_option maxHeartbeats 2000000 in
theorem row_words (name tx inn : ByteArray) (k a b : Int) (l : List ByteArray) (hl : wordsB tx = l) (h0 : tx.toList.isEmpty = false) (hs : tx.size ≤ 1000) (w : World) :
    Calls Tryz.prog 22 #[.string name, .int .i64 k, .int .i64 a, .int .i64 b, .string tx, .string inn] w (RowPost ⟨name, ⟨k, a, b, l⟩, inn⟩ w) := by
  have HW : Hid (∀ W : World, Calls Tryz.prog 28 #[.string tx] W fun e w' => ∃ v, e = .returned v ∧ StrsB W.heap.size w' v l ∧ Below W.heap.size W w') := Lib.hid fun W => by
    have h := words_any tx hs W
    unfold WordsPost at h
    rwa [hl] at h
  have r0 := (Row.new w 36 zeroR).alloc (.cells #[.string name, .int .i64 k, .int .i64 a, .int .i64 b, .slice none 0 0, .string inn] 36)
  have r1 := Row.new (w.alloc (.cells zeroR.toArray 36)) 36 [.string name, .int .i64 k, .int .i64 a, .int .i64 b, .slice none 0 0, .string inn]
  have b0 : Below w.heap.size w ((w.alloc (.cells zeroR.toArray 36)).alloc (.cells #[.string name, .int .i64 k, .int .i64 a, .int .i64 b, .slice none 0 0, .string inn] 36)) := ((Below.refl _ _).alloc (Nat.le_refl _) _).alloc (by simp) _
  have z0 : ((w.alloc (.cells zeroR.toArray 36)).alloc (.cells #[.string name, .int .i64 k, .int .i64 a, .int .i64 b, .slice none 0 0, .string inn] 36)).heap.size = w.heap.size + 2 := by simp
  rw [World.size_alloc] at r1
  clear hl hs
  go_enter Tryz.func22, Tryz.ntmps22
  go_wp2_with fail
  change Row ((w.alloc (.cells #[.string ⟨#[]⟩, .int .i64 0, .int .i64 0, .int .i64 0, .slice none 0 0, .string ⟨#[]⟩] 36)).alloc (.cells #[.string name, .int .i64 k, .int .i64 a, .int .i64 b, .slice none 0 0, .string inn] 36)) w.heap.size 36 zeroR at r0
  change Row ((w.alloc (.cells #[.string ⟨#[]⟩, .int .i64 0, .int .i64 0, .int .i64 0, .slice none 0 0, .string ⟨#[]⟩] 36)).alloc (.cells #[.string name, .int .i64 k, .int .i64 a, .int .i64 b, .slice none 0 0, .string inn] 36)) (w.heap.size + 1) 36 [.string name, .int .i64 k, .int .i64 a, .int .i64 b, .slice none 0 0, .string inn] at r1
  change Below w.heap.size w ((w.alloc (.cells #[.string ⟨#[]⟩, .int .i64 0, .int .i64 0, .int .i64 0, .slice none 0 0, .string ⟨#[]⟩] 36)).alloc (.cells #[.string name, .int .i64 k, .int .i64 a, .int .i64 b, .slice none 0 0, .string inn] 36)) at b0
  change ((w.alloc (.cells #[.string ⟨#[]⟩, .int .i64 0, .int .i64 0, .int .i64 0, .slice none 0 0, .string ⟨#[]⟩] 36)).alloc (.cells #[.string name, .int .i64 k, .int .i64 a, .int .i64 b, .slice none 0 0, .string inn] 36)).heap.size = w.heap.size + 2 at z0
  generalize (w.alloc (.cells #[.string ⟨#[]⟩, .int .i64 0, .int .i64 0, .int .i64 0, .slice none 0 0, .string ⟨#[]⟩] 36)).alloc (.cells #[.string name, .int .i64 k, .int .i64 a, .int .i64 b, .slice none 0 0, .string inn] 36) = w1 at r0 r1 b0 z0 ⊢
  refine (HW.out _).mono ?_
  rintro e w2 ⟨v, rfl, hS, hb⟩
  obtain ⟨p, c, rfl⟩ := hS.form
  have hp0 : w.heap.size < w2.heap.size := by have := hb.size; omega
  have hp1 : w.heap.size + 1 < w2.heap.size := by have := hb.size; omega
  have q0 := r0.below hb (by omega)
  have q1 := r1.below hb (by omega)
  have B2 := Lib.hid (b0.trans (hb.mono b0.size))
  have S2 := Lib.hid (hS.mono (show w.heap.size + 2 ≤ w1.heap.size by omega))
  have c0 := q1.cell 0
  have c1 := q1.cell 1
  have c2 := q1.cell 2
  have c3 := q1.cell 3
  have c4 := q1.cell 4
  have c5 := q1.cell 5
  have f4 := q1.frozen 4
  have d0 := q0.cell 0
  have d1 := q0.cell 1
  have d2 := q0.cell 2
  have d3 := q0.cell 3
  have d4 := q0.cell 4
  have d5 := q0.cell 5
  have g0 := q0.frozen 0
  have g1 := q0.frozen 1
  have g2 := q0.frozen 2
  have g3 := q0.frozen 3
  have g4 := q0.frozen 4
  have g5 := q0.frozen 5
  simp only [zeroR, List.getElem?_cons_zero, List.getElem?_cons_succ] at c0 c1 c2 c3 c4 c5 d0 d1 d2 d3 d4 d5
  clear hb hS r0 r1 b0
  obtain ⟨W9, hW9, e1, B9, S9⟩ : ∃ W9, Hid (((((((w2.setCell ⟨w.heap.size + 1, 4, none⟩ (.slice p l.length c)).setCell ⟨w.heap.size, 0, none⟩ (.string name)).setCell ⟨w.heap.size, 1, none⟩ (.int .i64 k)).setCell ⟨w.heap.size, 2, none⟩ (.int .i64 a)).setCell ⟨w.heap.size, 3, none⟩ (.int .i64 b)).setCell ⟨w.heap.size, 4, none⟩ (.slice p l.length c)).setCell ⟨w.heap.size, 5, none⟩ (.string inn) = W9) ∧ Row W9 w.heap.size 36 (fieldC2 ⟨name, ⟨k, a, b, l⟩, inn⟩ (.slice p l.length c)) ∧ Below w.heap.size w W9 ∧ StrsB (w.heap.size + 2) W9 (.slice p l.length c) l := by
    refine ⟨_, Lib.hid rfl, ?_, ?_, ?_⟩
    · exact ((((((q0.far (by exact Nat.ne_of_lt (Nat.lt_succ_self _)) _).set 0 _).set 1 _).set 2 _).set 3 _).set 4 _).set 5 _
    · exact ((((((B2.out.setCell (by exact Nat.le_succ _) _).setCell (Nat.le_refl _) _).setCell (Nat.le_refl _) _).setCell (Nat.le_refl _) _).setCell (Nat.le_refl _) _).setCell (Nat.le_refl _) _).setCell (Nat.le_refl _) _
    · refine S2.out.keep (by simp [World.setCell]) fun j hj hl => ?_
      have hs : ∀ (X : World) (o : Nat) (u : Value), (X.setCell ⟨w.heap.size, o, none⟩ u).heap[j]? = X.heap[j]? := fun X o u => Below.heap_setCell X ⟨w.heap.size, o, none⟩ u j (by exact (fun (e : j = w.heap.size) => by omega))
      rw [hs, hs, hs, hs, hs, hs, Below.heap_setCell _ ⟨w.heap.size + 1, 4, none⟩ _ j (by exact (fun (e : j = w.heap.size + 1) => by omega))]
  have E1 := Lib.hid e1
  clear e1 S2 B2 q0 q1
  go_wp2
  rw [hW9.out]
  exact bodyPost_ret (v := .agg (fieldC2 ⟨name, ⟨k, a, b, l⟩, inn⟩ (.slice p l.length c)).toArray) (results_cell_row rfl _ _ w.heap.size 36 (fieldC2 ⟨name, ⟨k, a, b, l⟩, inn⟩ (.slice p l.length c)).toArray (0, 0) _ rfl E1.out Tryz.underlying36 rfl rowR_info) rfl ⟨_, rfl, S9.mono (by omega), B9⟩

def tabV2 : List FD → List Value → List Value
  | f :: fs, v :: vs => fieldC2 f v ++ tabV2 fs vs
  | _, _ => []
def fdR : FD := ⟨⟨#[]⟩, ⟨0, 0, 0, []⟩, ⟨#[]⟩⟩
/-- The document's table laid. -/
def RTab (B g : Nat) (W : World) : Prop := ∃ vs : List Value, vs.length = 32 ∧ Row W g 36 (tabV2 tblF vs) ∧ ∀ i, i < 32 → StrsB B W (vs.getD i undef) (tblF.getD i fdR).rule.texts
/-- Rows that are held. -/
def HeldR (B : Nat) (W : World) (L : List (Value × List ByteArray)) : Prop := ∀ x ∈ L, StrsB B W x.1 x.2
theorem HeldR.cons {B : Nat} {W W' : World} {L : List (Value × List ByteArray)} (h : HeldR B W L) (hb : Below W.heap.size W W') {v : Value} {l : List ByteArray} (hs : StrsB B W' v l) : HeldR B W' ((v, l) :: L) := fun x hx => by
  rcases List.mem_cons.1 hx with rfl | hx
  · exact hs
  · exact (h x hx).below hb
theorem rowT_info : (Tryz.prog.info? 36).map (fun i => (i.size, i.zero.map (·.cells))) = some (6, some #[.string ⟨#[]⟩, .int .i64 0, .int .i64 0, .int .i64 0, .slice none 0 0, .string ⟨#[]⟩]) := by kernel_rfl
theorem wp_bs_c {P : Program} {op : Oper} {a : Act} {w : World} {K : Act → World → Prop} {Q : Exit → Act → World → Prop} (t : TypeId) (n : Nat) (parts : Array (Nat × Operand)) (ho : op.op = .buildSlice t n parts)
    (vals : Array (Nat × Value)) (v : Value) (W : World) (hv : (parts.map fun (i, x) => (i, a.eval x)) = vals) (hrun : (Instr.buildSlice t n vals).run P w = .ok v W)
    (h : K (a.put op.dst v) W) : op.wp P a w K Q := by
  unfold Oper.wp execOp
  simp only [ho, Sem.run_bind, hv, hrun, Result.andThen_ok]
  exact h
theorem wpList_bs_c {P : Program} {ops : Array Oper} {rest : List Oper} {op : Oper} {a : Act} {w : World} {Q : Exit → Act → World → Prop} (hg : op.guard = none) (t : TypeId) (n : Nat) (parts : Array (Nat × Operand)) (ho : op.op = .buildSlice t n parts)
    (vals : Array (Nat × Value)) (v : Value) (W : World) (hv : (parts.map fun (i, x) => (i, a.eval x)) = vals) (hrun : (Instr.buildSlice t n vals).run P w = .ok v W)
    (h : wpList P ops Q rest (a.put op.dst v) W) : wpList P ops Q (op :: rest) a w :=
  wpList_plain hg fun _ hK => wp_bs_c t n parts ho vals v W hv hrun (hK _ _ h)
set_option maxRecDepth 100000 in
theorem tabR_run (x0 x1 x2 x3 x4 x5 x6 x7 x8 x9 x10 x11 x12 x13 x14 x15 x16 x17 x18 x19 x20 x21 x22 x23 x24 x25 x26 x27 x28 x29 x30 x31 : Value) (W : World) : (Instr.buildSlice 23 32 #[(0, .agg (fieldC2 (tblF.getD 0 fdR) x0).toArray), (1, .agg (fieldC2 (tblF.getD 1 fdR) x1).toArray), (2, .agg (fieldC2 (tblF.getD 2 fdR) x2).toArray), (3, .agg (fieldC2 (tblF.getD 3 fdR) x3).toArray), (4, .agg (fieldC2 (tblF.getD 4 fdR) x4).toArray), (5, .agg (fieldC2 (tblF.getD 5 fdR) x5).toArray), (6, .agg (fieldC2 (tblF.getD 6 fdR) x6).toArray), (7, .agg (fieldC2 (tblF.getD 7 fdR) x7).toArray), (8, .agg (fieldC2 (tblF.getD 8 fdR) x8).toArray), (9, .agg (fieldC2 (tblF.getD 9 fdR) x9).toArray), (10, .agg (fieldC2 (tblF.getD 10 fdR) x10).toArray), (11, .agg (fieldC2 (tblF.getD 11 fdR) x11).toArray), (12, .agg (fieldC2 (tblF.getD 12 fdR) x12).toArray), (13, .agg (fieldC2 (tblF.getD 13 fdR) x13).toArray), (14, .agg (fieldC2 (tblF.getD 14 fdR) x14).toArray), (15, .agg (fieldC2 (tblF.getD 15 fdR) x15).toArray), (16, .agg (fieldC2 (tblF.getD 16 fdR) x16).toArray), (17, .agg (fieldC2 (tblF.getD 17 fdR) x17).toArray), (18, .agg (fieldC2 (tblF.getD 18 fdR) x18).toArray), (19, .agg (fieldC2 (tblF.getD 19 fdR) x19).toArray), (20, .agg (fieldC2 (tblF.getD 20 fdR) x20).toArray), (21, .agg (fieldC2 (tblF.getD 21 fdR) x21).toArray), (22, .agg (fieldC2 (tblF.getD 22 fdR) x22).toArray), (23, .agg (fieldC2 (tblF.getD 23 fdR) x23).toArray), (24, .agg (fieldC2 (tblF.getD 24 fdR) x24).toArray), (25, .agg (fieldC2 (tblF.getD 25 fdR) x25).toArray), (26, .agg (fieldC2 (tblF.getD 26 fdR) x26).toArray), (27, .agg (fieldC2 (tblF.getD 27 fdR) x27).toArray), (28, .agg (fieldC2 (tblF.getD 28 fdR) x28).toArray), (29, .agg (fieldC2 (tblF.getD 29 fdR) x29).toArray), (30, .agg (fieldC2 (tblF.getD 30 fdR) x30).toArray), (31, .agg (fieldC2 (tblF.getD 31 fdR) x31).toArray)]).run Tryz.prog W = .ok (.slice (some ⟨W.heap.size, 0, none⟩) 32 32) (W.alloc (.cells (tabV2 tblF [x0, x1, x2, x3, x4, x5, x6, x7, x8, x9, x10, x11, x12, x13, x14, x15, x16, x17, x18, x19, x20, x21, x22, x23, x24, x25, x26, x27, x28, x29, x30, x31]).toArray 36)) := by
  have h := rowT_info
  cases hi : Tryz.prog.info? 36 with
  | none => rw [hi] at h; cases h
  | some ie =>
    rw [hi] at h
    simp only [Option.map_some, Option.some.injEq, Prod.mk.injEq] at h
    obtain ⟨hs, hz⟩ := h
    cases hzz : ie.zero with
    | none => rw [hzz] at hz; cases hz
    | some z =>
      rw [hzz] at hz
      simp only [Option.map_some, Option.some.injEq] at hz
      refine run_buildSlice W _ 36 32 _ _ ie z Tryz.underlying23 hi hzz (by rw [hs]; decide) (by rw [hs]; decide) ?_
      rw [hs, hz]
      kernel_rfl
set_option maxRecDepth 100000 in
set_option maxHeartbeats 8000000 in
theorem refTable_any (w : World) :
    Calls Tryz.prog 6 #[] w fun e w' => ∃ g, e = .returned (.slice (some ⟨g, 0, none⟩) 32 32) ∧ w.heap.size ≤ g ∧ RTab w.heap.size g w' ∧ Below w.heap.size w w' := by
  have H0 := Lib.hid (fun W => row_words ⟨#[109, 101, 115, 115, 97, 103, 101, 84, 121, 112, 101]⟩ ⟨#[65, 82, 101, 113, 32, 65, 82, 101, 115, 32, 67, 82, 101, 113, 32, 67, 82, 101, 115, 32, 82, 82, 101, 113, 32, 82, 82, 101, 115, 32, 69, 114, 114, 111, 32, 80, 82, 101, 113, 32, 80, 82, 101, 115]⟩ ⟨#[82, 82, 82, 82, 82, 82, 82, 82, 82]⟩ 4 0 0 (msgL) (by decide +kernel) (by decide +kernel) (by decide) W)
  have H1 := Lib.hid (fun W => row_words ⟨#[109, 101, 115, 115, 97, 103, 101, 86, 101, 114, 115, 105, 111, 110]⟩ ⟨#[50, 46, 49, 46, 48, 32, 50, 46, 50, 46, 48]⟩ ⟨#[82, 82, 82, 82, 82, 82, 82, 82, 82]⟩ 4 0 0 ([⟨#[50, 46, 49, 46, 48]⟩, ⟨#[50, 46, 50, 46, 48]⟩]) (by decide +kernel) (by decide +kernel) (by decide) W)
  have H2 := Lib.hid (fun W => row_nil ⟨#[116, 104, 114, 101, 101, 68, 83, 83, 101, 114, 118, 101, 114, 84, 114, 97, 110, 115, 73, 68]⟩ ⟨#[82, 82, 82, 82, 82, 82, 111, 82, 82]⟩ 3 0 0 W)
  have H3 := Lib.hid (fun W => row_nil ⟨#[100, 115, 84, 114, 97, 110, 115, 73, 68]⟩ ⟨#[45, 82, 45, 45, 82, 82, 111, 45, 82]⟩ 3 0 0 W)
  have H4 := Lib.hid (fun W => row_nil ⟨#[97, 99, 115, 84, 114, 97, 110, 115, 73, 68]⟩ ⟨#[45, 82, 82, 82, 82, 82, 111, 45, 45]⟩ 3 0 0 W)
  have H5 := Lib.hid (fun W => row_nil ⟨#[97, 99, 99, 116, 78, 117, 109, 98, 101, 114]⟩ ⟨#[82, 45, 45, 45, 45, 45, 45, 45, 45]⟩ 5 0 0 W)
  have H6 := Lib.hid (fun W => row_nil ⟨#[112, 117, 114, 99, 104, 97, 115, 101, 65, 109, 111, 117, 110, 116]⟩ ⟨#[82, 45, 45, 45, 45, 45, 45, 45, 45]⟩ 8 1 12 W)
  have H7 := Lib.hid (fun W => row_nil ⟨#[112, 117, 114, 99, 104, 97, 115, 101, 67, 117, 114, 114, 101, 110, 99, 121]⟩ ⟨#[82, 45, 45, 45, 45, 45, 45, 45, 45]⟩ 1 3 3 W)
  have H8 := Lib.hid (fun W => row_nil ⟨#[112, 117, 114, 99, 104, 97, 115, 101, 68, 97, 116, 101]⟩ ⟨#[82, 45, 45, 45, 45, 45, 45, 45, 45]⟩ 6 0 0 W)
  have H9 := Lib.hid (fun W => row_nil ⟨#[109, 101, 114, 99, 104, 97, 110, 116, 78, 97, 109, 101]⟩ ⟨#[82, 45, 45, 45, 45, 45, 45, 45, 45]⟩ 2 1 40 W)
  have H10 := Lib.hid (fun W => row_nil ⟨#[109, 99, 99]⟩ ⟨#[82, 45, 45, 45, 45, 45, 45, 45, 45]⟩ 1 4 4 W)
  have H11 := Lib.hid (fun W => row_words ⟨#[100, 101, 118, 105, 99, 101, 67, 104, 97, 110, 110, 101, 108]⟩ ⟨#[48, 49, 32, 48, 50, 32, 48, 51]⟩ ⟨#[82, 45, 45, 45, 45, 45, 45, 45, 45]⟩ 4 0 0 ([⟨#[48, 49]⟩, ⟨#[48, 50]⟩, ⟨#[48, 51]⟩]) (by decide +kernel) (by decide +kernel) (by decide) W)
  have H12 := Lib.hid (fun W => row_words ⟨#[109, 101, 115, 115, 97, 103, 101, 67, 97, 116, 101, 103, 111, 114, 121]⟩ ⟨#[48, 49, 32, 48, 50]⟩ ⟨#[82, 45, 45, 45, 82, 45, 45, 45, 45]⟩ 4 0 0 ([⟨#[48, 49]⟩, ⟨#[48, 50]⟩]) (by decide +kernel) (by decide +kernel) (by decide) W)
  have H13 := Lib.hid (fun W => row_words ⟨#[99, 104, 97, 108, 108, 101, 110, 103, 101, 73, 110, 100]⟩ ⟨#[48, 49, 32, 48, 50, 32, 48, 51, 32, 48, 52]⟩ ⟨#[111, 45, 45, 45, 45, 45, 45, 45, 45]⟩ 4 0 0 ([⟨#[48, 49]⟩, ⟨#[48, 50]⟩, ⟨#[48, 51]⟩, ⟨#[48, 52]⟩]) (by decide +kernel) (by decide +kernel) (by decide) W)
  have H14 := Lib.hid (fun W => row_words ⟨#[97, 99, 99, 116, 84, 121, 112, 101]⟩ ⟨#[48, 49, 32, 48, 50, 32, 48, 51]⟩ ⟨#[111, 45, 45, 45, 45, 45, 45, 45, 45]⟩ 4 0 0 ([⟨#[48, 49]⟩, ⟨#[48, 50]⟩, ⟨#[48, 51]⟩]) (by decide +kernel) (by decide +kernel) (by decide) W)
  have H15 := Lib.hid (fun W => row_words ⟨#[116, 114, 97, 110, 115, 83, 116, 97, 116, 117, 115]⟩ ⟨#[89, 32, 78, 32, 85, 32, 65, 32, 67, 32, 82]⟩ ⟨#[45, 82, 45, 111, 82, 45, 45, 45, 45]⟩ 4 0 0 ([⟨#[89]⟩, ⟨#[78]⟩, ⟨#[85]⟩, ⟨#[65]⟩, ⟨#[67]⟩, ⟨#[82]⟩]) (by decide +kernel) (by decide +kernel) (by decide) W)
  have H16 := Lib.hid (fun W => row_nil ⟨#[116, 114, 97, 110, 115, 83, 116, 97, 116, 117, 115, 82, 101, 97, 115, 111, 110]⟩ ⟨#[45, 111, 45, 45, 111, 45, 45, 45, 45]⟩ 1 2 2 W)
  have H17 := Lib.hid (fun W => row_nil ⟨#[97, 117, 116, 104, 101, 110, 116, 105, 99, 97, 116, 105, 111, 110, 86, 97, 108, 117, 101]⟩ ⟨#[45, 111, 45, 45, 111, 45, 45, 45, 45]⟩ 7 20 0 W)
  have H18 := Lib.hid (fun W => row_nil ⟨#[101, 99, 105]⟩ ⟨#[45, 111, 45, 45, 111, 45, 45, 45, 45]⟩ 1 2 2 W)
  have H19 := Lib.hid (fun W => row_words ⟨#[99, 104, 97, 108, 108, 101, 110, 103, 101, 87, 105, 110, 100, 111, 119, 83, 105, 122, 101]⟩ ⟨#[48, 49, 32, 48, 50, 32, 48, 51, 32, 48, 52, 32, 48, 53]⟩ ⟨#[45, 45, 82, 45, 45, 45, 45, 45, 45]⟩ 4 0 0 ([⟨#[48, 49]⟩, ⟨#[48, 50]⟩, ⟨#[48, 51]⟩, ⟨#[48, 52]⟩, ⟨#[48, 53]⟩]) (by decide +kernel) (by decide +kernel) (by decide) W)
  have H20 := Lib.hid (fun W => row_nil ⟨#[99, 104, 97, 108, 108, 101, 110, 103, 101, 68, 97, 116, 97, 69, 110, 116, 114, 121]⟩ ⟨#[45, 45, 111, 45, 45, 45, 45, 45, 45]⟩ 2 1 45 W)
  have H21 := Lib.hid (fun W => row_words ⟨#[99, 104, 97, 108, 108, 101, 110, 103, 101, 67, 97, 110, 99, 101, 108]⟩ ⟨#[48, 49, 32, 48, 50, 32, 48, 51, 32, 48, 52, 32, 48, 53, 32, 48, 54, 32, 48, 55, 32, 48, 56]⟩ ⟨#[45, 45, 111, 45, 45, 45, 45, 45, 45]⟩ 4 0 0 ([⟨#[48, 49]⟩, ⟨#[48, 50]⟩, ⟨#[48, 51]⟩, ⟨#[48, 52]⟩, ⟨#[48, 53]⟩, ⟨#[48, 54]⟩, ⟨#[48, 55]⟩, ⟨#[48, 56]⟩]) (by decide +kernel) (by decide +kernel) (by decide) W)
  have H22 := Lib.hid (fun W => row_words ⟨#[99, 104, 97, 108, 108, 101, 110, 103, 101, 67, 111, 109, 112, 108, 101, 116, 105, 111, 110, 73, 110, 100]⟩ ⟨#[89, 32, 78]⟩ ⟨#[45, 45, 45, 82, 45, 45, 45, 45, 45]⟩ 4 0 0 ([⟨#[89]⟩, ⟨#[78]⟩]) (by decide +kernel) (by decide +kernel) (by decide) W)
  have H23 := Lib.hid (fun W => row_nil ⟨#[99, 104, 97, 108, 108, 101, 110, 103, 101, 73, 110, 102, 111, 84, 101, 120, 116]⟩ ⟨#[45, 45, 45, 111, 45, 45, 45, 45, 45]⟩ 2 1 350 W)
  have H24 := Lib.hid (fun W => row_nil ⟨#[105, 110, 116, 101, 114, 97, 99, 116, 105, 111, 110, 67, 111, 117, 110, 116, 101, 114]⟩ ⟨#[45, 45, 45, 45, 82, 45, 45, 45, 45]⟩ 1 2 2 W)
  have H25 := Lib.hid (fun W => row_words ⟨#[114, 101, 115, 117, 108, 116, 115, 83, 116, 97, 116, 117, 115]⟩ ⟨#[48, 49, 32, 48, 50, 32, 48, 51, 32, 48, 52]⟩ ⟨#[45, 45, 45, 45, 45, 82, 45, 45, 45]⟩ 4 0 0 ([⟨#[48, 49]⟩, ⟨#[48, 50]⟩, ⟨#[48, 51]⟩, ⟨#[48, 52]⟩]) (by decide +kernel) (by decide +kernel) (by decide) W)
  have H26 := Lib.hid (fun W => row_nil ⟨#[101, 114, 114, 111, 114, 67, 111, 100, 101]⟩ ⟨#[45, 45, 45, 45, 45, 45, 82, 45, 45]⟩ 1 3 3 W)
  have H27 := Lib.hid (fun W => row_words ⟨#[101, 114, 114, 111, 114, 67, 111, 109, 112, 111, 110, 101, 110, 116]⟩ ⟨#[65, 32, 67, 32, 68, 32, 83]⟩ ⟨#[45, 45, 45, 45, 45, 45, 82, 45, 45]⟩ 4 0 0 ([⟨#[65]⟩, ⟨#[67]⟩, ⟨#[68]⟩, ⟨#[83]⟩]) (by decide +kernel) (by decide +kernel) (by decide) W)
  have H28 := Lib.hid (fun W => row_nil ⟨#[101, 114, 114, 111, 114, 68, 101, 115, 99, 114, 105, 112, 116, 105, 111, 110]⟩ ⟨#[45, 45, 45, 45, 45, 45, 82, 45, 45]⟩ 2 1 200 W)
  have H29 := Lib.hid (fun W => row_nil ⟨#[101, 114, 114, 111, 114, 68, 101, 116, 97, 105, 108]⟩ ⟨#[45, 45, 45, 45, 45, 45, 82, 45, 45]⟩ 2 0 300 W)
  have H30 := Lib.hid (fun W => row_words ⟨#[101, 114, 114, 111, 114, 77, 101, 115, 115, 97, 103, 101, 84, 121, 112, 101]⟩ ⟨#[65, 82, 101, 113, 32, 65, 82, 101, 115, 32, 67, 82, 101, 113, 32, 67, 82, 101, 115, 32, 82, 82, 101, 113, 32, 82, 82, 101, 115, 32, 69, 114, 114, 111, 32, 80, 82, 101, 113, 32, 80, 82, 101, 115]⟩ ⟨#[45, 45, 45, 45, 45, 45, 111, 45, 45]⟩ 4 0 0 (msgL) (by decide +kernel) (by decide +kernel) (by decide) W)
  have H31 := Lib.hid (fun W => row_nil ⟨#[115, 101, 114, 105, 97, 108, 78, 117, 109]⟩ ⟨#[45, 45, 45, 45, 45, 45, 45, 111, 82]⟩ 8 1 20 W)
  have B0 := Lib.hid (Below.refl w.heap.size w)
  have K0 : Hid (HeldR w.heap.size w []) := Lib.hid fun x hx => absurd hx (by simp)
  go_enter Tryz.func6, Tryz.ntmps6
  go_wp2_with fail
  refine (H0.out _).mono ?_
  rintro e w1 ⟨x0, rfl, hs, hb⟩
  have K1 := Lib.hid (K0.out.cons hb (hs.mono B0.out.size))
  have B1 := Lib.hid (B0.out.trans (hb.mono B0.out.size))
  clear hb hs K0 B0 H0
  go_wp2_with fail
  refine (H1.out _).mono ?_
  rintro e w2 ⟨x1, rfl, hs, hb⟩
  have K2 := Lib.hid (K1.out.cons hb (hs.mono B1.out.size))
  have B2 := Lib.hid (B1.out.trans (hb.mono B1.out.size))
  clear hb hs K1 B1 H1
  go_wp2_with fail
  refine (H2.out _).mono ?_
  rintro e w3 ⟨x2, rfl, hs, hb⟩
  have K3 := Lib.hid (K2.out.cons hb (hs.mono B2.out.size))
  have B3 := Lib.hid (B2.out.trans (hb.mono B2.out.size))
  clear hb hs K2 B2 H2
  go_wp2_with fail
  refine (H3.out _).mono ?_
  rintro e w4 ⟨x3, rfl, hs, hb⟩
  have K4 := Lib.hid (K3.out.cons hb (hs.mono B3.out.size))
  have B4 := Lib.hid (B3.out.trans (hb.mono B3.out.size))
  clear hb hs K3 B3 H3
  go_wp2_with fail
  refine (H4.out _).mono ?_
  rintro e w5 ⟨x4, rfl, hs, hb⟩
  have K5 := Lib.hid (K4.out.cons hb (hs.mono B4.out.size))
  have B5 := Lib.hid (B4.out.trans (hb.mono B4.out.size))
  clear hb hs K4 B4 H4
  go_wp2_with fail
  refine (H5.out _).mono ?_
  rintro e w6 ⟨x5, rfl, hs, hb⟩
  have K6 := Lib.hid (K5.out.cons hb (hs.mono B5.out.size))
  have B6 := Lib.hid (B5.out.trans (hb.mono B5.out.size))
  clear hb hs K5 B5 H5
  go_wp2_with fail
  refine (H6.out _).mono ?_
  rintro e w7 ⟨x6, rfl, hs, hb⟩
  have K7 := Lib.hid (K6.out.cons hb (hs.mono B6.out.size))
  have B7 := Lib.hid (B6.out.trans (hb.mono B6.out.size))
  clear hb hs K6 B6 H6
  go_wp2_with fail
  refine (H7.out _).mono ?_
  rintro e w8 ⟨x7, rfl, hs, hb⟩
  have K8 := Lib.hid (K7.out.cons hb (hs.mono B7.out.size))
  have B8 := Lib.hid (B7.out.trans (hb.mono B7.out.size))
  clear hb hs K7 B7 H7
  go_wp2_with fail
  refine (H8.out _).mono ?_
  rintro e w9 ⟨x8, rfl, hs, hb⟩
  have K9 := Lib.hid (K8.out.cons hb (hs.mono B8.out.size))
  have B9 := Lib.hid (B8.out.trans (hb.mono B8.out.size))
  clear hb hs K8 B8 H8
  go_wp2_with fail
  refine (H9.out _).mono ?_
  rintro e w10 ⟨x9, rfl, hs, hb⟩
  have K10 := Lib.hid (K9.out.cons hb (hs.mono B9.out.size))
  have B10 := Lib.hid (B9.out.trans (hb.mono B9.out.size))
  clear hb hs K9 B9 H9
  go_wp2_with fail
  refine (H10.out _).mono ?_
  rintro e w11 ⟨x10, rfl, hs, hb⟩
  have K11 := Lib.hid (K10.out.cons hb (hs.mono B10.out.size))
  have B11 := Lib.hid (B10.out.trans (hb.mono B10.out.size))
  clear hb hs K10 B10 H10
  go_wp2_with fail
  refine (H11.out _).mono ?_
  rintro e w12 ⟨x11, rfl, hs, hb⟩
  have K12 := Lib.hid (K11.out.cons hb (hs.mono B11.out.size))
  have B12 := Lib.hid (B11.out.trans (hb.mono B11.out.size))
  clear hb hs K11 B11 H11
  go_wp2_with fail
  refine (H12.out _).mono ?_
  rintro e w13 ⟨x12, rfl, hs, hb⟩
  have K13 := Lib.hid (K12.out.cons hb (hs.mono B12.out.size))
  have B13 := Lib.hid (B12.out.trans (hb.mono B12.out.size))
  clear hb hs K12 B12 H12
  go_wp2_with fail
  refine (H13.out _).mono ?_
  rintro e w14 ⟨x13, rfl, hs, hb⟩
  have K14 := Lib.hid (K13.out.cons hb (hs.mono B13.out.size))
  have B14 := Lib.hid (B13.out.trans (hb.mono B13.out.size))
  clear hb hs K13 B13 H13
  go_wp2_with fail
  refine (H14.out _).mono ?_
  rintro e w15 ⟨x14, rfl, hs, hb⟩
  have K15 := Lib.hid (K14.out.cons hb (hs.mono B14.out.size))
  have B15 := Lib.hid (B14.out.trans (hb.mono B14.out.size))
  clear hb hs K14 B14 H14
  go_wp2_with fail
  refine (H15.out _).mono ?_
  rintro e w16 ⟨x15, rfl, hs, hb⟩
  have K16 := Lib.hid (K15.out.cons hb (hs.mono B15.out.size))
  have B16 := Lib.hid (B15.out.trans (hb.mono B15.out.size))
  clear hb hs K15 B15 H15
  go_wp2_with fail
  refine (H16.out _).mono ?_
  rintro e w17 ⟨x16, rfl, hs, hb⟩
  have K17 := Lib.hid (K16.out.cons hb (hs.mono B16.out.size))
  have B17 := Lib.hid (B16.out.trans (hb.mono B16.out.size))
  clear hb hs K16 B16 H16
  go_wp2_with fail
  refine (H17.out _).mono ?_
  rintro e w18 ⟨x17, rfl, hs, hb⟩
  have K18 := Lib.hid (K17.out.cons hb (hs.mono B17.out.size))
  have B18 := Lib.hid (B17.out.trans (hb.mono B17.out.size))
  clear hb hs K17 B17 H17
  go_wp2_with fail
  refine (H18.out _).mono ?_
  rintro e w19 ⟨x18, rfl, hs, hb⟩
  have K19 := Lib.hid (K18.out.cons hb (hs.mono B18.out.size))
  have B19 := Lib.hid (B18.out.trans (hb.mono B18.out.size))
  clear hb hs K18 B18 H18
  go_wp2_with fail
  refine (H19.out _).mono ?_
  rintro e w20 ⟨x19, rfl, hs, hb⟩
  have K20 := Lib.hid (K19.out.cons hb (hs.mono B19.out.size))
  have B20 := Lib.hid (B19.out.trans (hb.mono B19.out.size))
  clear hb hs K19 B19 H19
  go_wp2_with fail
  refine (H20.out _).mono ?_
  rintro e w21 ⟨x20, rfl, hs, hb⟩
  have K21 := Lib.hid (K20.out.cons hb (hs.mono B20.out.size))
  have B21 := Lib.hid (B20.out.trans (hb.mono B20.out.size))
  clear hb hs K20 B20 H20
  go_wp2_with fail
  refine (H21.out _).mono ?_
  rintro e w22 ⟨x21, rfl, hs, hb⟩
  have K22 := Lib.hid (K21.out.cons hb (hs.mono B21.out.size))
  have B22 := Lib.hid (B21.out.trans (hb.mono B21.out.size))
  clear hb hs K21 B21 H21
  go_wp2_with fail
  refine (H22.out _).mono ?_
  rintro e w23 ⟨x22, rfl, hs, hb⟩
  have K23 := Lib.hid (K22.out.cons hb (hs.mono B22.out.size))
  have B23 := Lib.hid (B22.out.trans (hb.mono B22.out.size))
  clear hb hs K22 B22 H22
  go_wp2_with fail
  refine (H23.out _).mono ?_
  rintro e w24 ⟨x23, rfl, hs, hb⟩
  have K24 := Lib.hid (K23.out.cons hb (hs.mono B23.out.size))
  have B24 := Lib.hid (B23.out.trans (hb.mono B23.out.size))
  clear hb hs K23 B23 H23
  go_wp2_with fail
  refine (H24.out _).mono ?_
  rintro e w25 ⟨x24, rfl, hs, hb⟩
  have K25 := Lib.hid (K24.out.cons hb (hs.mono B24.out.size))
  have B25 := Lib.hid (B24.out.trans (hb.mono B24.out.size))
  clear hb hs K24 B24 H24
  go_wp2_with fail
  refine (H25.out _).mono ?_
  rintro e w26 ⟨x25, rfl, hs, hb⟩
  have K26 := Lib.hid (K25.out.cons hb (hs.mono B25.out.size))
  have B26 := Lib.hid (B25.out.trans (hb.mono B25.out.size))
  clear hb hs K25 B25 H25
  go_wp2_with fail
  refine (H26.out _).mono ?_
  rintro e w27 ⟨x26, rfl, hs, hb⟩
  have K27 := Lib.hid (K26.out.cons hb (hs.mono B26.out.size))
  have B27 := Lib.hid (B26.out.trans (hb.mono B26.out.size))
  clear hb hs K26 B26 H26
  go_wp2_with fail
  refine (H27.out _).mono ?_
  rintro e w28 ⟨x27, rfl, hs, hb⟩
  have K28 := Lib.hid (K27.out.cons hb (hs.mono B27.out.size))
  have B28 := Lib.hid (B27.out.trans (hb.mono B27.out.size))
  clear hb hs K27 B27 H27
  go_wp2_with fail
  refine (H28.out _).mono ?_
  rintro e w29 ⟨x28, rfl, hs, hb⟩
  have K29 := Lib.hid (K28.out.cons hb (hs.mono B28.out.size))
  have B29 := Lib.hid (B28.out.trans (hb.mono B28.out.size))
  clear hb hs K28 B28 H28
  go_wp2_with fail
  refine (H29.out _).mono ?_
  rintro e w30 ⟨x29, rfl, hs, hb⟩
  have K30 := Lib.hid (K29.out.cons hb (hs.mono B29.out.size))
  have B30 := Lib.hid (B29.out.trans (hb.mono B29.out.size))
  clear hb hs K29 B29 H29
  go_wp2_with fail
  refine (H30.out _).mono ?_
  rintro e w31 ⟨x30, rfl, hs, hb⟩
  have K31 := Lib.hid (K30.out.cons hb (hs.mono B30.out.size))
  have B31 := Lib.hid (B30.out.trans (hb.mono B30.out.size))
  clear hb hs K30 B30 H30
  go_wp2_with fail
  refine (H31.out _).mono ?_
  rintro e w32 ⟨x31, rfl, hs, hb⟩
  have K32 := Lib.hid (K31.out.cons hb (hs.mono B31.out.size))
  have B32 := Lib.hid (B31.out.trans (hb.mono B31.out.size))
  clear hb hs K31 B31 H31
  have hrun := tabR_run x0 x1 x2 x3 x4 x5 x6 x7 x8 x9 x10 x11 x12 x13 x14 x15 x16 x17 x18 x19 x20 x21 x22 x23 x24 x25 x26 x27 x28 x29 x30 x31 w32
  have hnew := Lib.hid (Row.new w32 36 (tabV2 tblF [x0, x1, x2, x3, x4, x5, x6, x7, x8, x9, x10, x11, x12, x13, x14, x15, x16, x17, x18, x19, x20, x21, x22, x23, x24, x25, x26, x27, x28, x29, x30, x31]))
  have hab : Hid (Below w32.heap.size w32 (w32.alloc (.cells (tabV2 tblF [x0, x1, x2, x3, x4, x5, x6, x7, x8, x9, x10, x11, x12, x13, x14, x15, x16, x17, x18, x19, x20, x21, x22, x23, x24, x25, x26, x27, x28, x29, x30, x31]).toArray 36))) := Lib.hid ((Below.refl _ _).alloc (Nat.le_refl _) _)
  obtain ⟨W9, hW9⟩ : ∃ W9, Hid (w32.alloc (.cells (tabV2 tblF [x0, x1, x2, x3, x4, x5, x6, x7, x8, x9, x10, x11, x12, x13, x14, x15, x16, x17, x18, x19, x20, x21, x22, x23, x24, x25, x26, x27, x28, x29, x30, x31]).toArray 36) = W9) := ⟨_, Lib.hid rfl⟩
  rw [hW9.out] at hrun hnew hab
  simp only [tblF, List.getD_cons_zero, List.getD_cons_succ, msgL] at hrun
  have HR := Lib.hid hrun
  clear hrun
  go_wp2_with (refine wpList_bs_c rfl 23 32 _ rfl _ _ W9 ?hvv HR.out ?_)
  case hvv => exact ⟨rfl, rfl⟩
  go_ret
  refine ⟨_, rfl, B32.out.size, ⟨[x0, x1, x2, x3, x4, x5, x6, x7, x8, x9, x10, x11, x12, x13, x14, x15, x16, x17, x18, x19, x20, x21, x22, x23, x24, x25, x26, x27, x28, x29, x30, x31], rfl, hnew.out, fun i hi => ?_⟩, B32.out.trans (hab.out.mono B32.out.size)⟩
  have hx : ∀ x ∈ _, _ := K32.out
  match i, hi with
  | 0, _ => exact (K32.out _ (List.mem_of_getElem? (i := 31) rfl)).below hab.out
  | 1, _ => exact (K32.out _ (List.mem_of_getElem? (i := 30) rfl)).below hab.out
  | 2, _ => exact (K32.out _ (List.mem_of_getElem? (i := 29) rfl)).below hab.out
  | 3, _ => exact (K32.out _ (List.mem_of_getElem? (i := 28) rfl)).below hab.out
  | 4, _ => exact (K32.out _ (List.mem_of_getElem? (i := 27) rfl)).below hab.out
  | 5, _ => exact (K32.out _ (List.mem_of_getElem? (i := 26) rfl)).below hab.out
  | 6, _ => exact (K32.out _ (List.mem_of_getElem? (i := 25) rfl)).below hab.out
  | 7, _ => exact (K32.out _ (List.mem_of_getElem? (i := 24) rfl)).below hab.out
  | 8, _ => exact (K32.out _ (List.mem_of_getElem? (i := 23) rfl)).below hab.out
  | 9, _ => exact (K32.out _ (List.mem_of_getElem? (i := 22) rfl)).below hab.out
  | 10, _ => exact (K32.out _ (List.mem_of_getElem? (i := 21) rfl)).below hab.out
  | 11, _ => exact (K32.out _ (List.mem_of_getElem? (i := 20) rfl)).below hab.out
  | 12, _ => exact (K32.out _ (List.mem_of_getElem? (i := 19) rfl)).below hab.out
  | 13, _ => exact (K32.out _ (List.mem_of_getElem? (i := 18) rfl)).below hab.out
  | 14, _ => exact (K32.out _ (List.mem_of_getElem? (i := 17) rfl)).below hab.out
  | 15, _ => exact (K32.out _ (List.mem_of_getElem? (i := 16) rfl)).below hab.out
  | 16, _ => exact (K32.out _ (List.mem_of_getElem? (i := 15) rfl)).below hab.out
  | 17, _ => exact (K32.out _ (List.mem_of_getElem? (i := 14) rfl)).below hab.out
  | 18, _ => exact (K32.out _ (List.mem_of_getElem? (i := 13) rfl)).below hab.out
  | 19, _ => exact (K32.out _ (List.mem_of_getElem? (i := 12) rfl)).below hab.out
  | 20, _ => exact (K32.out _ (List.mem_of_getElem? (i := 11) rfl)).below hab.out
  | 21, _ => exact (K32.out _ (List.mem_of_getElem? (i := 10) rfl)).below hab.out
  | 22, _ => exact (K32.out _ (List.mem_of_getElem? (i := 9) rfl)).below hab.out
  | 23, _ => exact (K32.out _ (List.mem_of_getElem? (i := 8) rfl)).below hab.out
  | 24, _ => exact (K32.out _ (List.mem_of_getElem? (i := 7) rfl)).below hab.out
  | 25, _ => exact (K32.out _ (List.mem_of_getElem? (i := 6) rfl)).below hab.out
  | 26, _ => exact (K32.out _ (List.mem_of_getElem? (i := 5) rfl)).below hab.out
  | 27, _ => exact (K32.out _ (List.mem_of_getElem? (i := 4) rfl)).below hab.out
  | 28, _ => exact (K32.out _ (List.mem_of_getElem? (i := 3) rfl)).below hab.out
  | 29, _ => exact (K32.out _ (List.mem_of_getElem? (i := 2) rfl)).below hab.out
  | 30, _ => exact (K32.out _ (List.mem_of_getElem? (i := 1) rfl)).below hab.out
  | 31, _ => exact (K32.out _ (List.mem_of_getElem? (i := 0) rfl)).below hab.out
  | n + 32, h => exact absurd h (by omega)
end Go.Proofs.YtheidjnapoipaaaGreatDoor
