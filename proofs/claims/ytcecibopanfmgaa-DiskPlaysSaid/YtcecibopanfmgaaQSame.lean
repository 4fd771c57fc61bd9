/- Whether the disk and the document's show, and keep, the same. -/
import Derived.Test.YtcecibopanfmgaaQDo
import Derived.Test.YtcecibopanfmgaaKQuiet
namespace Go.Proofs.Ytcecibopanfmgaa
open Go.RowKit Go.Maps Go.Shelf
set_option linter.unusedVariables false
set_option linter.unusedSimpArgs false
attribute [local go_sem] Oper.semAt_some

section
variable {P : Program} {ops : Array Oper} {C : World → Prop}
theorem wpQuiet_call {Q : Act → Prop} {a : Act} {o : Oper} {rest : List Oper} (v : Value) (fn : FuncId) (vals : Array Value) (hw : Region.wanted o (yielded ops a.tmps) = true) (hx : ∀ w, (execOp a.eval o).run P w = .ok (.enter fn vals) w)
    (hc : ∀ w, C w → Calls P fn vals w (fun e w'' => e = .returned v ∧ C w'')) (h : wpQuiet P ops C Q rest (a.put o.dst v)) : wpQuiet P ops C Q (o :: rest) a := by
  unfold wpQuiet
  rw [if_pos hw]
  refine ⟨v, fun w hC => ?_, h⟩
  unfold Oper.quietAt
  rw [hx w]
  exact ⟨rfl, hc w hC⟩
theorem wpQuiet_skip' {Q : Act → Prop} {a : Act} {o : Oper} {rest : List Oper} (hw : Region.wanted o (yielded ops a.tmps) = false) (h : wpQuiet P ops C Q rest (a.put o.dst undef)) : wpQuiet P ops C Q (o :: rest) a := by
  unfold wpQuiet
  rw [if_neg (by rw [hw]; exact Bool.false_ne_true)]
  exact h
end
theorem range_next {n : Nat} {pre : List (Sn n)} {x : Sn n} (h : (pre ++ [x]).map Subtype.val <+: List.range n) : x.1 = pre.length := by
  rw [List.map_append] at h
  have hl := h.length_le
  obtain ⟨t, ht⟩ := h
  have h1 : ((pre.map Subtype.val ++ [x.1]) ++ t)[pre.length]? = (List.range n)[pre.length]? := by
    have : List.map Subtype.val [x] = [x.1] := rfl
    rw [← this, ht]
  rw [List.append_assoc, List.getElem?_append_right (by simp)] at h1
  simp at h1
  simp at hl
  rw [List.getElem?_range (by omega)] at h1
  simpa using h1
theorem range_next' {n : Nat} {pre : List (Sn n)} {x : Sn n} (h : pre.map Subtype.val <+: List.range n) (hx : x.1 = pre.length) : (pre ++ [x]).map Subtype.val <+: List.range n := by
  obtain ⟨t, ht⟩ := h
  have hp : pre.map Subtype.val = List.range pre.length := by
    have h2 := congrArg (List.take pre.length) ht
    rw [List.take_append_of_le_length (by simp), List.take_of_length_le (by simp)] at h2
    rw [h2, List.take_range]
    congr 1
    have := congrArg List.length ht
    simp at this
    omega
  rw [List.map_append, hp]
  have hx2 := x.2
  have e : List.range pre.length ++ List.map Subtype.val [x] = List.range (pre.length + 1) := by rw [List.range_succ]; simp [hx]
  rw [e]
  exact range_pre (by omega)

/-- What a round of the loop reads. -/
structure SameB (W : World) (p q bd bq bn g gr j : Nat) (RC C : List Value) : Prop where
  n : Row W bn 3 [.int .i64 (j : Nat)]
  bq : Row W bq 28 [.pointer (some ⟨q, 0, none⟩)]
  bd : Row W bd 24 [.pointer (some ⟨p, 0, none⟩)]
  rq : Row W q 36 RC
  rg : ∀ W', SB W W' → W'.rangeAt g 0 C
  rl : ∀ W', SB W W' → W'.rangeAt gr (j * 128) C
  sz : (Try.prog.info? 42).map (·.size) = some C.length
  dif : ∀ W, (binOp .neq 42 (.agg C.toArray) (.agg C.toArray)).run Try.prog W = .ok (.bool false) W
  last : ∀ W', SB W W' → Calls Try.prog 23 #[.pointer (some ⟨p, 0, none⟩), .int .i64 (j : Nat)] W' (fun e w' => e = .returned (.agg C.toArray) ∧ SB W w')
theorem own_pure_s {β : Type} {B : Nat} {φ : β → Prop} : OwnFrom B (fun (s : β) (_ : World) => φ s) := fun s X Y row hs _ _ => hs
theorem fn_not_nil (f : Nat) (b : Array Value) (W : World) : (binOp .eql 46 (.func (.func f) #[] b) .nilFunc).run Try.prog W = .ok (.bool false) W := by
  kernel_rfl
section
variable {T : Nat → Prop} {w w' : World} {p q : Nat} {D E D' E' : DS}
set_option maxRecDepth 100000 in
set_option maxHeartbeats 4000000 in
theorem Same_any (hP : Pair T w p q D D.reff) (hs : D.steps < 1000000) (hh : D.hangs.length < 1000000) :
    Calls Try.prog 13 #[.pointer (some ⟨p, 0, none⟩), .pointer (some ⟨q, 0, none⟩)] w fun e w' => e = .returned (.bool true) ∧ Below w.heap.size w w' := by
  obtain ⟨ws, hws⟩ : ∃ ws, w.heap.size = ws := ⟨_, rfl⟩
  have HWS := Lib.hid hws
  have HP := Lib.hid hP
  have HH := Lib.hid (And.intro hs hh)
  clear hP hs hh
  refine (callsIn_wide (n := 6)).1 ?_
  refine callsIn_of_wp_marks Try.func13 rfl trivial ?_ rfl
  simp only [Try.ntmps13, List.size_toArray, List.length_cons, List.length_nil, Nat.reduceAdd, Nat.reduceSub, Array.replicate_succ, Array.replicate_zero, List.push_toArray, List.append_toArray, List.nil_append, List.cons_append]
  rw [wpIn_wide]
  clear hws
  go_wp2_with fail
  refine ((callsIn_wide (n := 0)).1 (All_in 0 (some ⟨p, 0, none⟩) _)).mono ?_
  rintro e w5 ⟨rfl, rfl⟩
  have hnf := fun (b : Array Value) (W : World) => fn_not_nil 31 b W
  go_wp2_with fail
  clear hnf
  obtain ⟨bd, hbd⟩ : ∃ b, w.heap.size = b := ⟨_, rfl⟩
  obtain ⟨bq, hbq⟩ : ∃ b, bd + 1 = b := ⟨_, rfl⟩
  obtain ⟨br, hbr⟩ : ∃ b, bq + 1 = b := ⟨_, rfl⟩
  obtain ⟨bc, hbc⟩ : ∃ b, br + 1 = b := ⟨_, rfl⟩
  obtain ⟨bn, hbn⟩ : ∃ b, bc + 1 = b := ⟨_, rfl⟩
  have c1 := Row.new w 24 [.pointer (some ⟨p, 0, none⟩)]
  have c2 := Row.new (w.alloc (.cells #[.pointer (some ⟨p, 0, none⟩)] 24)) 28 [.pointer (some ⟨q, 0, none⟩)]
  have c3 := Row.new ((w.alloc (.cells #[.pointer (some ⟨p, 0, none⟩)] 24)).alloc (.cells #[.pointer (some ⟨q, 0, none⟩)] 28)) 4 [.bool false]
  have c4 := Row.new (((w.alloc (.cells #[.pointer (some ⟨p, 0, none⟩)] 24)).alloc (.cells #[.pointer (some ⟨q, 0, none⟩)] 28)).alloc (.cells #[.bool false] 4)) 24 [.pointer (some ⟨p, 0, none⟩)]
  have c5 := Row.new ((((w.alloc (.cells #[.pointer (some ⟨p, 0, none⟩)] 24)).alloc (.cells #[.pointer (some ⟨q, 0, none⟩)] 28)).alloc (.cells #[.bool false] 4)).alloc (.cells #[.pointer (some ⟨p, 0, none⟩)] 24)) 3 [.int .i64 0]
  have d1 := (((c1.alloc (.cells #[.pointer (some ⟨q, 0, none⟩)] 28)).alloc (.cells #[.bool false] 4)).alloc (.cells #[.pointer (some ⟨p, 0, none⟩)] 24)).alloc (.cells #[.int .i64 0] 3)
  have d2 := ((c2.alloc (.cells #[.bool false] 4)).alloc (.cells #[.pointer (some ⟨p, 0, none⟩)] 24)).alloc (.cells #[.int .i64 0] 3)
  have d3 := (c3.alloc (.cells #[.pointer (some ⟨p, 0, none⟩)] 24)).alloc (.cells #[.int .i64 0] 3)
  have d4 := c4.alloc (.cells #[.int .i64 0] 3)
  have hB : SB w (((((w.alloc (.cells #[.pointer (some ⟨p, 0, none⟩)] 24)).alloc (.cells #[.pointer (some ⟨q, 0, none⟩)] 28)).alloc (.cells #[.bool false] 4)).alloc (.cells #[.pointer (some ⟨p, 0, none⟩)] 24)).alloc (.cells #[.int .i64 0] 3)) := SB.al (SB.al (SB.al (SB.al (SB.al (SB.here w) _) _) _) _) _
  have hsz : (((((w.alloc (.cells #[.pointer (some ⟨p, 0, none⟩)] 24)).alloc (.cells #[.pointer (some ⟨q, 0, none⟩)] 28)).alloc (.cells #[.bool false] 4)).alloc (.cells #[.pointer (some ⟨p, 0, none⟩)] 24)).alloc (.cells #[.int .i64 0] 3)).heap.size = w.heap.size + 5 := by simp
  simp only [World.size_alloc] at d2 d3 d4 c5
  simp only [hbd, hbq, hbr, hbc, hbn] at d1 d2 d3 d4 c5 hsz ⊢
  generalize ((((w.alloc (.cells #[.pointer (some ⟨p, 0, none⟩)] 24)).alloc (.cells #[.pointer (some ⟨q, 0, none⟩)] 28)).alloc (.cells #[.bool false] 4)).alloc (.cells #[.pointer (some ⟨p, 0, none⟩)] 24)).alloc (.cells #[.int .i64 0] 3) = wm at d1 d2 d3 d4 c5 hB hsz ⊢
  have Pm : Pair (fun k => k = bn) wm p q D D.reff := HP.out.grow hB (fun k hk => .inr ⟨by omega, by omega⟩)
  obtain ⟨S, _, hTS, ⟨gl, gm, hv, Dm, hdm⟩, gr, hvr, hrm⟩ := Pm
  obtain ⟨ha, hc, rfl⟩ := own_slice hrm.han
  obtain ⟨nh, hnh⟩ : ∃ nh, D.hangs.length = nh := ⟨_, rfl⟩
  have hdI : DiskIs (fun k => k = bn) wm p D := DiskIs.less ⟨gl, gm, hv, Dm, hdm⟩ hTS
  have hrA : RefAt (fun k => k = bn) wm q gr (.slice ha D.reff.hangs.length hc) D.reff := hrm.kept (fun _ _ => rfl) (fun g hg hl => hrm.out g hg (.inl hl))
  obtain ⟨row, las⟩ := And.intro hdm.row hdm.las
  have h8 := hdm.good.rows
  have hm := hdm.good.most
  have hm16 := hdm.good.least
  have hpl := hdm.row.lt
  have hgl := hdm.las.lt
  have hpn : p ≠ bn := fun e => hdm.fp (hTS _ e)
  have hgn : gl ≠ bn := fun e => hdm.fl (hTS _ e)
  obtain ⟨LS, hLS⟩ : ∃ LS, D.lasts = LS := ⟨_, rfl⟩
  rw [hLS] at row las h8 hm hm16
  obtain ⟨nl, hnl⟩ : ∃ nl, LS.length = nl := ⟨_, rfl⟩
  obtain ⟨RC, HRC⟩ : ∃ RC, Hid (RC = [Value.slice (some ⟨gr, 0, none⟩) nl nl, .slice ha nh hc, .int .i64 (D.steps : Nat), .int .i64 (max D.fuse (-1)), .bool D.down]) := ⟨_, Lib.hid rfl⟩
  have hrq : Row wm q 36 RC := by
    have h := hrA.row
    rw [HRC.out, ← hnl, ← hLS, ← hnh]
    exact h
  have HD := Lib.hid (And.intro hdI (And.intro hrA (And.intro hrq (And.intro hLS hnl))))
  have HNH := Lib.hid hnh
  have HL := Lib.hid (And.intro h8 (And.intro hm hm16))
  have HC := Lib.hid (And.intro d1 (And.intro d2 (And.intro d3 (And.intro hB c5))))
  have HN := Lib.hid (And.intro hpl (And.intro hgl (And.intro hsz (And.intro hpn (And.intro hgn (And.intro hbd (And.intro hbq (And.intro hbr (And.intro hbc hbn)))))))))
  have hbnlt : bn < wm.heap.size := by omega
  have hbclt : bc < wm.heap.size := by omega
  have hInit : Boxed wm bn 3 (.int .i64 (([] : List (Sn LS.length)).length : Nat)) := c5
  have hrowbc : wm.heap[bc]? = some (.cells #[.pointer (some ⟨p, 0, none⟩)] 24 (0, 0)) := d4
  have HI0 := Lib.hid (And.intro hInit hrowbc)
  clear c1 c2 c3 c4 c5 d1 d2 d3 d4 hB hdm hrm hdI hrA hrq hTS hLS hnh hInit hrowbc hbd hbq hbr hbc hbn
  rw [← wpIn_wide (n := 6)]
  refine' wpIn_rangeFunc_ownH rfl (by omega) (gf := 31) (lb := #[.pointer (some ⟨bc, 0, none⟩)]) rfl trivial (enters_of Try.func31 (by kernel_rfl) rfl)
    (All_stops 5 (by omega) bc p gl LS _ h8 hm wm HI0.out.2 row las) keepsA_t (keepsA_b (by omega) (by omega) (by omega)) (Below.refl _ _) (fun _ => rfl)
    (fun pre W => pre.map Subtype.val <+: List.range LS.length ∧ Boxed W bn 3 (.int .i64 (pre.length : Nat)) ∧ Keeps (fun k => k ≠ bn) wm W) (fun _ pre _ => ¬ pre.map Subtype.val <+: List.range LS.length)
    (OwnFrom.and own_pure_s (OwnFrom.and (Own.from (own_box bn 3 (fun pre : List (Sn LS.length) => .int .i64 (pre.length : Nat))) _) (ownFrom_keeps (Nat.le_refl _)))) (fun _ => own_pure_s) ⟨List.nil_prefix, HI0.out.1, Keeps.refl _ _⟩
    (fun x a' W => ∃ g, (a' = { tmps := #[Value.pointer (some ⟨p, 0, none⟩), Value.pointer (some ⟨q, 0, none⟩), Value.pointer (some ⟨bd, 0, none⟩), Value.pointer (some ⟨bq, 0, none⟩), Value.pointer (some ⟨br, 0, none⟩), Value.func (Fn.func 31) #[] #[Value.pointer (some ⟨bc, 0, none⟩)], Value.pointer (some ⟨bn, 0, none⟩), Value.int IntKind.i64 (x.1 : Nat), Value.pointer (some ⟨g, 0, none⟩), undef, undef, undef, undef, Value.pointer (some ⟨p, 0, none⟩), Value.func (Fn.func 31) #[] #[Value.pointer (some ⟨bc, 0, none⟩)], Value.func (Fn.func 31) #[] #[Value.pointer (some ⟨bc, 0, none⟩)], Value.bool false, Value.func (Fn.func 31) #[] #[Value.pointer (some ⟨bc, 0, none⟩)], Value.int IntKind.i64 (x.1 : Nat), Value.agg ((LS.getD x.1 []).map bv).toArray, undef, undef, undef, undef, undef, undef, undef, undef, undef, undef, undef, undef, undef, undef, undef, undef, undef, undef, undef, undef, undef, undef, undef, undef, undef, undef, undef, undef, undef, undef, undef, undef, undef, undef, undef, undef, undef, undef, undef, undef, undef, undef, undef, undef, undef, undef, undef, undef, undef, undef, undef, undef, undef, undef, undef, undef, undef, undef, undef, undef, undef, undef, undef, undef, undef, undef, undef, undef, undef, undef, undef, undef, undef, undef, undef, undef, undef, undef, undef, undef, undef, undef, undef, undef, undef, undef, undef, undef, undef, undef, undef, undef, undef, undef], defers := [] }) ∧ Row W g 42 ((LS.getD x.1 []).map bv))
    (fun x a' => ax_own _) ?hassign ?hbody ?hdone ?hstop
  case hstop =>
    rintro D c pre W _ hpre h _
    exact absurd hpre h
  case hassign =>
    intro l' pre x W K hI hK
    unfold allArgs
    rw [show blkV (LS.getD x.1 []) = Value.agg ((LS.getD x.1 []).map bv).toArray from rfl]
    have hx8 : (LS.getD x.1 []).length = 128 := getD_len HL.out.1 x.2
    obtain ⟨hsb, hrow⟩ := boxed_blk W (LS.getD x.1 [])
    have hnew := Row.new W 42 zB
    have hone := blkV_one (LS.getD x.1 [])
    have hszA := blk_sizeA _ hx8
    have hzl : zB.toArray.size = ((LS.getD x.1 []).map bv).toArray.size := by rw [List.size_toArray, List.size_toArray, List.length_map, hx8, zB_len]
    have hW2 : wm.heap.size ≤ W.heap.size := hI.2.2.size
    have hI2 : (pre.map Subtype.val <+: List.range LS.length ∧ Boxed _ bn 3 (.int .i64 (pre.length : Nat)) ∧ Keeps (fun k => k ≠ bn) wm _) := ⟨hI.1, (hsb.block bn (by omega)).trans hI.2.1, hI.2.2.trans (Keeps.of_below (L := fun k => k ≠ bn) hsb (fun _ h _ => h))⟩
    obtain ⟨cs, hcs⟩ : ∃ cs, ((LS.getD x.1 []).map bv).toArray = cs := ⟨_, rfl⟩
    have HX := Lib.hid (And.intro hsb (And.intro hrow (And.intro hI2 (And.intro hone (And.intro hszA (And.intro hzl hW2))))))
    have HCS := Lib.hid hcs
    have hz := (zero_of_info zB_info).1
    clear hsb hrow hone hszA hzl hI2 hW2
    rw [hcs] at HX ⊢
    clear hcs
    gi_wp2_with (refine wpIn_store_row 42 (.tmp 8) (.tmp 19) rfl W.heap.size cs rfl rfl 42 zB.toArray hnew HX.out.2.2.2.2.1 HX.out.2.2.2.2.2.1 HX.out.2.2.2.1 ?_)
    refine hK _ _ ((below_others HX.out.1).from _) (keepsA_of (L := fun _ => True) (Keeps.of_below HX.out.1 (fun _ h _ => h)) trivial trivial trivial ?_ ?_ ?_) HX.out.2.2.1 ⟨W.heap.size, ?_, HX.out.2.1⟩
    · have := HX.out.2.2.2.2.2.2; omega
    · have := HX.out.2.2.2.2.2.2; omega
    · have := HX.out.2.2.2.2.2.2; omega
    · rw [HCS.out]
  case hbody =>
    rintro l' pre x a' W hl' hrec ⟨hpre, hn, hk⟩ ⟨g, rfl, hrow⟩ hlt
    by_cases hx : x.1 = pre.length
    · have hpre2 : (pre ++ [x]).map Subtype.val <+: List.range LS.length := range_next' hpre hx
      obtain ⟨j, hj⟩ : ∃ j, pre.length = j := ⟨_, rfl⟩
      have hpl2 : (pre ++ [x]).length = j + 1 := by rw [List.length_append, hj]; rfl
      have hjl : j < LS.length := by rw [← hj, ← hx]; exact x.2
      rw [hj] at hn hx
      rw [hx]
      have hx8 : (LS.getD j []).length = 128 := getD_len HL.out.1 hjl
      have hsz := blk_size _ hx8
      have hdif := fun W => blk_differ (LS.getD j []) hx8 W
      unfold blkV at hdif
      have hkW : ∀ W', SB W W' → Keeps (fun k => k ≠ bn) wm W' := fun W' h => hk.trans (Keeps.of_below (L := fun k => k ≠ bn) h (fun _ h _ => h))
      have hdW : ∀ W', Keeps (fun k => k ≠ bn) wm W' → DiskIs (fun k => k = bn) W' p D := fun W' h => HD.out.1.keeps h (fun g _ h2 => h2)
      have hrW : ∀ W', Keeps (fun k => k ≠ bn) wm W' → RefAt (fun k => k = bn) W' q gr (.slice ha D.reff.hangs.length hc) D.reff := fun W' h => HD.out.2.1.kept (fun g hg => h.block g (HD.out.2.1.lt g hg) (HD.out.2.1.out g hg)) HD.out.2.1.out
      have hrow2 := hrow
      rw [hx] at hrow2
      obtain ⟨C, hC⟩ : ∃ C, (LS.getD j []).map bv = C := ⟨_, rfl⟩
      have hlst : ∀ W', SB W W' → Calls Try.prog 23 #[.pointer (some ⟨p, 0, none⟩), .int .i64 (j : Nat)] W' (fun e w' => e = .returned (.agg C.toArray) ∧ SB W w') := fun W' h => by
        obtain ⟨gl', gm', hv', Dm', hd'⟩ := hdW W' (hkW W' h)
        refine (Lasts_any hd' j (by rw [HD.out.2.2.2.1]; exact hjl)).mono ?_
        rintro e w' ⟨rfl, hb⟩
        refine ⟨?_, h.next hb⟩
        rw [HD.out.2.2.2.1]
        unfold blkV
        rw [hC]
      rw [hC] at hrow2 hsz hdif
      rw [hC]
      have hne := HN.out
      have hkb : ∀ (b : Nat) (T : TypeId) (l : List Value), b < wm.heap.size → b ≠ bn → Row wm b T l → Row W b T l := fun b T l h1 h2 h3 => (hk.block b h1 h2).trans h3
      have hX : SameB W p q bd bq bn g gr j RC C := ⟨hn, hkb bq _ _ (by omega) (by omega) HC.out.2.1, hkb bd _ _ (by omega) (by omega) HC.out.1, hkb q _ _ HD.out.2.2.1.lt (fun e => HD.out.2.1.fp e) HD.out.2.2.1,
        fun W' h => by
          have h := row_range (h.row hrow2) 0 C.length (by omega)
          rwa [List.drop_zero, List.take_of_length_le (Nat.le_refl _)] at h,
        fun W' h => by
          have h2 := (hrW W' (hkW W' h)).lastRange j (show j < D.lasts.length by rw [HD.out.2.2.2.1]; exact hjl)
          have e : D.reff.lasts = LS := HD.out.2.2.2.1
          rw [e, hC] at h2
          exact h2, hsz, hdif, hlst⟩
      have hjI : (j : Int) < (nl : Int) := by have := HD.out.2.2.2.2; omega
      have hj0 : ¬ (j : Int) < 0 := by omega
      have hjg : ¬ (nl : Int) ≤ (j : Int) := by omega
      have HX := Lib.hid hX
      -- what both read there
      obtain ⟨gl0, gm0, hv0, Dm0, hd0⟩ := HD.out.1
      have hrl := read_len hd0.good (j : Int)
      obtain ⟨RB, hRB⟩ : ∃ RB, (D.read (j : Int)).map bv = RB := ⟨_, rfl⟩
      have hRBl : RB.length = 128 := by rw [← hRB, List.length_map, hrl]
      have hRsz := blk_size _ hrl
      have hRone := blkV_one (D.read (j : Int))
      have hRV : blkV (D.read (j : Int)) = .agg RB.toArray := by unfold blkV; rw [hRB]
      have hEQ := fun W => blk_differ (D.read (j : Int)) hrl W
      rw [hRB] at hRsz hRone
      rw [hRV] at hEQ
      obtain ⟨F, hF⟩ : ∃ F, D.fault (j : Int) = F := ⟨_, rfl⟩
      obtain ⟨Z, hZ⟩ : ∃ Z, zB = Z := ⟨_, rfl⟩
      have hZl : Z.length = 128 := by rw [← hZ]; exact zB_len
      have hz := (zero_of_info zB_info).1
      rw [hZ] at hz
      have HZ := Lib.hid (And.intro hZ (And.intro hZl (And.intro hRBl (And.intro hRsz hRone))))
      have HNEW : Hid (∀ W : World, Row (W.alloc (.cells Z.toArray 42)) W.heap.size 42 Z ∧ SB W ((W.alloc (.cells Z.toArray 42)).setRow W.heap.size RB.toArray) ∧ Row ((W.alloc (.cells Z.toArray 42)).setRow W.heap.size RB.toArray) W.heap.size 42 RB) := Lib.hid fun W =>
        ⟨Row.new W 42 Z, below_setRow (B := W.heap.size) ((Below.refl W.heap.size W).alloc (Nat.le_refl _) _) (Nat.le_refl _) _, (Row.new W 42 Z).put _⟩
      have HLD : Hid (∀ (W : World) (g : Nat), Row W g 42 RB → (Instr.loadAt 42 (.pointer (some ⟨g, 0, none⟩))).run Try.prog W = .ok (.agg RB.toArray) W) := Lib.hid fun W g hr => by
        have h := run_loadAt_mid (P := Try.prog) W g 0 42 RB _ (fun j v hj => by rw [Nat.zero_add, hr.cell]; exact hj) Try.underlying42 rfl HZ.out.2.2.2.1
        exact h
      have HRD : Hid (∀ W', SB W W' → CallsIn (Fence.wide.inRound l') 3 Try.prog 19 #[.pointer (some ⟨p, 0, none⟩), .int .i64 (j : Nat)] W' fun e w' => e = .returned (.tuple #[.agg RB.toArray, .int .i64 F]) ∧ SB W w' ∧ SB W' w') := Lib.hid fun W' h => by
        obtain ⟨gl', gm', hv', Dm', hd'⟩ := hdW W' (hkW W' h)
        have h2 := (Read_any hd' (j : Int)).mono (fun e w' h3 => And.intro h3.1 (And.intro (h.next h3.2) h3.2))
        rw [hRV, hF] at h2
        exact CallsIn.inRound l' (callsIn_wide.2 h2)
      have HRR : Hid (∀ W', SB W W' → CallsIn (Fence.wide.inRound l') 3 Try.prog 25 #[.pointer (some ⟨q, 0, none⟩), .int .i64 (j : Nat)] W' fun e w' => e = .returned (.tuple #[.agg RB.toArray, .int .i64 F]) ∧ SB W w' ∧ SB W' w') := Lib.hid fun W' h => by
        have h2 := (RRead_any (hrW W' (hkW W' h)) (j : Int) (show D.hangs.length < 1000000000 by have := HH.out.2; omega)).mono (fun e w' h3 => And.intro h3.1 (And.intro (h.next h3.2) h3.2))
        rw [reff_read, reff_fault, hRV, hF] at h2
        exact CallsIn.inRound l' (callsIn_wide.2 h2)
      have HJN := Lib.hid (show j < nl by omega)
      have hnl4 : (nl : Int) ≤ 4096 := by have := HL.out.2.1; have := HD.out.2.2.2.2; omega
      have hWs := Lib.hid (show wm.heap.size ≤ W.heap.size from hk.size)
      have HK := Lib.hid (And.intro hkW (And.intro hpre2 (And.intro hpl2 hjI)))
      clear hk hn hpre hpre2 hpl2 hlt hx hjl hx8 hsz hdif hkW hdW hrW hrow2 hC hlst hkb hX hd0 hrl hRB hRBl hRsz hRone hRV hF hZ hZl hne hrow hj
      gi_wp2
      refine round_quiet_lit (SB W) (by kernel_rfl) (by kernel_rfl) (by kernel_rfl) (below_drewN (Below.refl _ _) 1) ?_
      refine wpQuiet_yields (.int .i64 (j : Nat)) (Or.inl ⟨by rfl, fun W' hS => ?yq1⟩) ?_
      case yq1 =>
        go_simp
      try simp only [Act.put, List.setIfInBounds_toArray, List.set_cons_zero, List.set_cons_succ]
      refine wpQuiet_yields (.int .i64 (j : Nat)) (Or.inl ⟨by rfl, fun W' hS => ?yq2⟩) ?_
      case yq2 =>
        have q0 := (SB.row (l := [.int .i64 (j : Nat)]) hS HX.out.n).cell 0
        simp only [List.getElem?_cons_zero] at q0
        go_simp
      try simp only [Act.put, List.setIfInBounds_toArray, List.set_cons_zero, List.set_cons_succ]
      refine wpQuiet_yields (.bool false) (Or.inl ⟨by rfl, fun W' hS => ?yq3⟩) ?_
      case yq3 =>
        go_simp
      try simp only [Act.put, List.setIfInBounds_toArray, List.set_cons_zero, List.set_cons_succ]
      refine wpQuiet_yields (.bool false) (Or.inl ⟨by rfl, fun W' hS => ?yq4⟩) ?_
      case yq4 =>
        go_simp
      try simp only [Act.put, List.setIfInBounds_toArray, List.set_cons_zero, List.set_cons_succ]
      refine wpQuiet_yields (.int .i64 (j : Nat)) (Or.inl ⟨by rfl, fun W' hS => ?yq5⟩) ?_
      case yq5 =>
        go_simp
      try simp only [Act.put, List.setIfInBounds_toArray, List.set_cons_zero, List.set_cons_succ]
      refine wpQuiet_yields (Value.pointer (some ⟨q, 0, none⟩)) (Or.inl ⟨by rfl, fun W' hS => ?yq6⟩) ?_
      case yq6 =>
        have q0 := (SB.row (l := [Value.pointer (some ⟨q, 0, none⟩)]) hS HX.out.bq).cell 0
        simp only [List.getElem?_cons_zero] at q0
        go_simp
      try simp only [Act.put, List.setIfInBounds_toArray, List.set_cons_zero, List.set_cons_succ]
      refine wpQuiet_yields (Value.pointer (some ⟨q, 0, none⟩)) (Or.inl ⟨by rfl, fun W' hS => ?yq7⟩) ?_
      case yq7 =>
        go_simp
      try simp only [Act.put, List.setIfInBounds_toArray, List.set_cons_zero, List.set_cons_succ]
      refine wpQuiet_yields (Value.pointer (some ⟨q, 0, none⟩)) (Or.inl ⟨by rfl, fun W' hS => ?yq8⟩) ?_
      case yq8 =>
        go_simp
      try simp only [Act.put, List.setIfInBounds_toArray, List.set_cons_zero, List.set_cons_succ]
      refine wpQuiet_yields (.slice (some ⟨gr, 0, none⟩) nl nl) (Or.inl ⟨by rfl, fun W' hS => ?yq9⟩) ?_
      case yq9 =>
        have q0 := (SB.row hS HX.out.rq).cell 0
        simp only [HRC.out, List.getElem?_cons_zero] at q0
        go_simp
      try simp only [Act.put, List.setIfInBounds_toArray, List.set_cons_zero, List.set_cons_succ]
      refine wpQuiet_yields (.int .i64 nl) (Or.inl ⟨by rfl, fun W' hS => ?yq10⟩) ?_
      case yq10 =>
        go_simp
      try simp only [Act.put, List.setIfInBounds_toArray, List.set_cons_zero, List.set_cons_succ]
      refine wpQuiet_yields (.bool false) (Or.inl ⟨by rfl, fun W' hS => ?yq11⟩) ?_
      case yq11 =>
        go_simp
        exact HJN.out
      try simp only [Act.put, List.setIfInBounds_toArray, List.set_cons_zero, List.set_cons_succ]
      refine wpQuiet_yields (.bool false) (Or.inl ⟨by rfl, fun W' hS => ?yq12⟩) ?_
      case yq12 =>
        go_simp
      try simp only [Act.put, List.setIfInBounds_toArray, List.set_cons_zero, List.set_cons_succ]
      refine wpQuiet_yields (.bool false) (Or.inl ⟨by rfl, fun W' hS => ?yq13⟩) ?_
      case yq13 =>
        go_simp
      try simp only [Act.put, List.setIfInBounds_toArray, List.set_cons_zero, List.set_cons_succ]
      refine wpQuiet_yields (.agg C.toArray) (yieldsIf_load_mid (by rfl) 42 (.tmp 8) rfl g 0 rfl C _ (fun W h => HX.out.rg W h) Try.underlying42 rfl HX.out.sz) ?_
      try simp only [Act.put, List.setIfInBounds_toArray, List.set_cons_zero, List.set_cons_succ]
      refine wpQuiet_yields (Value.pointer (some ⟨q, 0, none⟩)) (Or.inl ⟨by rfl, fun W' hS => ?yq14⟩) ?_
      case yq14 =>
        have q0 := (SB.row (l := [Value.pointer (some ⟨q, 0, none⟩)]) hS HX.out.bq).cell 0
        simp only [List.getElem?_cons_zero] at q0
        go_simp
      try simp only [Act.put, List.setIfInBounds_toArray, List.set_cons_zero, List.set_cons_succ]
      refine wpQuiet_yields (Value.pointer (some ⟨q, 0, none⟩)) (Or.inl ⟨by rfl, fun W' hS => ?yq15⟩) ?_
      case yq15 =>
        go_simp
      try simp only [Act.put, List.setIfInBounds_toArray, List.set_cons_zero, List.set_cons_succ]
      refine wpQuiet_yields (Value.pointer (some ⟨q, 0, none⟩)) (Or.inl ⟨by rfl, fun W' hS => ?yq16⟩) ?_
      case yq16 =>
        go_simp
      try simp only [Act.put, List.setIfInBounds_toArray, List.set_cons_zero, List.set_cons_succ]
      refine wpQuiet_yields (.slice (some ⟨gr, 0, none⟩) nl nl) (Or.inl ⟨by rfl, fun W' hS => ?yq17⟩) ?_
      case yq17 =>
        have q0 := (SB.row hS HX.out.rq).cell 0
        simp only [HRC.out, List.getElem?_cons_zero] at q0
        go_simp
      try simp only [Act.put, List.setIfInBounds_toArray, List.set_cons_zero, List.set_cons_succ]
      refine wpQuiet_yields (.int .i64 (j : Nat)) (Or.inl ⟨by rfl, fun W' hS => ?yq18⟩) ?_
      case yq18 =>
        go_simp
      try simp only [Act.put, List.setIfInBounds_toArray, List.set_cons_zero, List.set_cons_succ]
      refine wpQuiet_yields (.pointer (some ⟨gr, j * 128, none⟩)) (Or.inl ⟨by rfl, fun W' hS => ?yq19⟩) ?_
      case yq19 =>
        go_simp
      try simp only [Act.put, List.setIfInBounds_toArray, List.set_cons_zero, List.set_cons_succ]
      refine wpQuiet_yields (.agg C.toArray) (yieldsIf_load_mid (by rfl) 42 (.tmp 39) rfl gr (j * 128) rfl C _ (fun W h => HX.out.rl W h) Try.underlying42 rfl HX.out.sz) ?_
      try simp only [Act.put, List.setIfInBounds_toArray, List.set_cons_zero, List.set_cons_succ]
      refine wpQuiet_yields (.bool false) (yields_neq (by rfl) _ _ _ _ rfl C.toArray rfl rfl (by kernel_rfl) HX.out.dif) ?_
      try simp only [Act.put, List.setIfInBounds_toArray, List.set_cons_zero, List.set_cons_succ]
      refine wpQuiet_yields (.bool false) (Or.inl ⟨by rfl, fun W' hS => ?yq20⟩) ?_
      case yq20 =>
        go_simp
      try simp only [Act.put, List.setIfInBounds_toArray, List.set_cons_zero, List.set_cons_succ]
      refine wpQuiet_yields (.bool false) (Or.inl ⟨by rfl, fun W' hS => ?yq21⟩) ?_
      case yq21 =>
        go_simp
      try simp only [Act.put, List.setIfInBounds_toArray, List.set_cons_zero, List.set_cons_succ]
      refine wpQuiet_yields (Value.pointer (some ⟨p, 0, none⟩)) (Or.inl ⟨by rfl, fun W' hS => ?yq22⟩) ?_
      case yq22 =>
        have q0 := (SB.row (l := [Value.pointer (some ⟨p, 0, none⟩)]) hS HX.out.bd).cell 0
        simp only [List.getElem?_cons_zero] at q0
        go_simp
      try simp only [Act.put, List.setIfInBounds_toArray, List.set_cons_zero, List.set_cons_succ]
      refine wpQuiet_yields (.int .i64 (j : Nat)) (Or.inl ⟨by rfl, fun W' hS => ?yq23⟩) ?_
      case yq23 =>
        go_simp
      try simp only [Act.put, List.setIfInBounds_toArray, List.set_cons_zero, List.set_cons_succ]
      refine wpQuiet_call (.agg C.toArray) 23 #[Value.pointer (some ⟨p, 0, none⟩), .int .i64 (j : Nat)] (by rfl) (fun W' => ?yq24) (fun W' hS => HX.out.last W' hS) ?_
      case yq24 =>
        go_simp
      try simp only [Act.put, List.setIfInBounds_toArray, List.set_cons_zero, List.set_cons_succ]
      refine wpQuiet_yields (.agg C.toArray) (yieldsIf_load_mid (by rfl) 42 (.tmp 8) rfl g 0 rfl C _ (fun W h => HX.out.rg W h) Try.underlying42 rfl HX.out.sz) ?_
      try simp only [Act.put, List.setIfInBounds_toArray, List.set_cons_zero, List.set_cons_succ]
      refine wpQuiet_yields (.bool false) (yields_neq (by rfl) _ _ _ _ rfl C.toArray rfl rfl (by kernel_rfl) HX.out.dif) ?_
      try simp only [Act.put, List.setIfInBounds_toArray, List.set_cons_zero, List.set_cons_succ]
      refine wpQuiet_yields (.bool false) (Or.inl ⟨by rfl, fun W' hS => ?yq25⟩) ?_
      case yq25 =>
        go_simp
      try simp only [Act.put, List.setIfInBounds_toArray, List.set_cons_zero, List.set_cons_succ]
      refine wpQuiet_nil ?_
      intro wf hwf

      have HWF := Lib.hid hwf
      have b3 := (SB.row hwf HX.out.bd).cell 0
      simp only [List.getElem?_cons_zero] at b3
      clear hwf
      gi_wp2_with (first
        | (refine ⟨trivial, ?_⟩; gi_at_call 19; refine (HRD.out _ HWF.out).mono ?_; rintro e w2 ⟨rfl, hb2⟩; have HB2 := Lib.hid hb2; clear hb2)
        | (refine ⟨trivial, ?_⟩; gi_at_call 25; refine (HRR.out _ HN3.out.1).mono ?_; rintro e w4 ⟨rfl, hb4⟩; have HB4 := Lib.hid hb4; clear hb4)
        | (refine wpIn_store_row 42 (.tmp 9) (.tmp 54) rfl w2.heap.size RB.toArray rfl rfl 42 Z.toArray (HNEW.out w2).1 (by rw [List.size_toArray]; exact HZ.out.2.2.2.1) (by rw [List.size_toArray, List.size_toArray, HZ.out.2.1, HZ.out.2.2.1]) HZ.out.2.2.2.2 ?_; have hN := (HNEW.out w2).2; generalize (w2.alloc (.cells Z.toArray 42)).setRow w2.heap.size RB.toArray = w3 at hN ⊢; have HN3 := Lib.hid (And.intro (SB.next HB2.out.1 hN.1) hN.2); have b4 := (SB.row HN3.out.1 HX.out.bq).cell 0; simp only [List.getElem?_cons_zero] at b4; clear hN)
        | (refine wpIn_store_row 42 (.tmp 11) (.tmp 60) rfl w4.heap.size RB.toArray rfl rfl 42 Z.toArray (HNEW.out w4).1 (by rw [List.size_toArray]; exact HZ.out.2.2.2.1) (by rw [List.size_toArray, List.size_toArray, HZ.out.2.1, HZ.out.2.2.1]) HZ.out.2.2.2.2 ?_; have hN := (HNEW.out w4).2; generalize (w4.alloc (.cells Z.toArray 42)).setRow w4.heap.size RB.toArray = w5 at hN ⊢; have HN5 := Lib.hid (And.intro (SB.next HB4.out.1 hN.1) (And.intro hN.2 (SB.row (SB.next HB4.out.2 hN.1) HN3.out.2))); have b5 := (SB.row HN5.out.1 HX.out.n).cell 0; have f5 := (SB.row HN5.out.1 HX.out.n).frozen 0; simp only [List.getElem?_cons_zero] at b5; clear hN)
        | (refine wpIn_load_eq (g := w2.heap.size) rfl rfl (HLD.out _ _ HN5.out.2.2) ?_)
        | (refine wpIn_load_eq (g := w4.heap.size) rfl rfl (HLD.out _ _ HN5.out.2.1) ?_)
        | fail)
      have hne := HN.out
      have hk5 := HK.out.1 _ HN5.out.1
      have hsz5 := hk5.size
      have e1 : (((pre ++ [x]).length : Nat) : Int) = (j : Int) + 1 := by rw [HK.out.2.2.1]; omega
      have hbx : Boxed w5 bn 3 (.int .i64 (j : Nat)) := SB.row HN5.out.1 HX.out.n
      have hWW : wm.heap.size ≤ W.heap.size := hWs.out
      have hkA : Keeps (fun k => k ≠ bn) W (w5.setCell ⟨bn, 0, none⟩ (.int .i64 ((j : Int) + 1))) := (Keeps.of_below (L := fun k => k ≠ bn) HN5.out.1 (fun _ h _ => h)).setCell (p := ⟨bn, 0, none⟩) (.inl (fun h => h rfl)) _
      refine ⟨((below_others HN5.out.1).trans (KeepsOthers.setCell _ _ _)).from _, keepsA_of (L := fun k => k ≠ bn) hkA (by omega) (by omega) (by omega) (by omega) (by omega) (by omega), HK.out.2.1, ?_, hk5.setCell (p := ⟨bn, 0, none⟩) (.inl (fun h => h rfl)) _⟩
      rw [e1]
      exact hbx.set _
    · have hnp : ¬ (pre ++ [x]).map Subtype.val <+: List.range LS.length := fun h => hx (range_next h)
      have HNP := Lib.hid hnp
      obtain ⟨j, hj⟩ : ∃ j, pre.length = j := ⟨_, rfl⟩
      obtain ⟨i, hi⟩ : ∃ i, x.1 = i := ⟨_, rfl⟩
      rw [hj] at hn hx
      rw [hi] at hx ⊢
      have hne : ((i : Int) != (j : Int)) = true := by rw [bne_iff_ne]; omega
      have hne3 : ((i : Int) == (j : Int)) = false := by rw [beq_eq_false_iff_ne]; omega
      have hbr : Row W br 4 [.bool false] := (hk.block br (by have := HN.out; omega) (by have := HN.out; show br ≠ bn; omega)).trans HC.out.2.2.1
      have HX := Lib.hid (And.intro (show Row W bn 3 [.int .i64 (j : Nat)] from hn) hbr)
      clear hnp hn hbr hj hi hk hpre hx hrow
      gi_wp2
      refine round_quiet_lit (SB W) (by kernel_rfl) (by kernel_rfl) (by kernel_rfl) (below_drewN (Below.refl _ _) 1) ?_
      refine wpQuiet_yields (.int .i64 (i : Nat)) (Or.inl ⟨by rfl, fun W' hS => ?yq1⟩) ?_
      case yq1 =>
        go_simp
      try simp only [Act.put, List.setIfInBounds_toArray, List.set_cons_zero, List.set_cons_succ]
      refine wpQuiet_yields (.int .i64 (j : Nat)) (Or.inl ⟨by rfl, fun W' hS => ?yq2⟩) ?_
      case yq2 =>
        have q0 := (SB.row (l := [.int .i64 (j : Nat)]) hS HX.out.1).cell 0
        simp only [List.getElem?_cons_zero] at q0
        go_simp
      try simp only [Act.put, List.setIfInBounds_toArray, List.set_cons_zero, List.set_cons_succ]
      refine wpQuiet_yields (.bool true) (Or.inl ⟨by rfl, fun W' hS => ?yq3⟩) ?_
      case yq3 =>
        go_simp
      try simp only [Act.put, List.setIfInBounds_toArray, List.set_cons_zero, List.set_cons_succ]
      refine wpQuiet_yields (.bool true) (Or.inl ⟨by rfl, fun W' hS => ?yq4⟩) ?_
      case yq4 =>
        go_simp
      try simp only [Act.put, List.setIfInBounds_toArray, List.set_cons_zero, List.set_cons_succ]
      go_big_quiet_skip
      go_big_quiet_skip
      go_big_quiet_skip
      go_big_quiet_skip
      go_big_quiet_skip
      go_big_quiet_skip
      go_big_quiet_skip
      refine wpQuiet_yields (.bool true) (Or.inl ⟨by rfl, fun W' hS => ?yq5⟩) ?_
      case yq5 =>
        go_simp
      try simp only [Act.put, List.setIfInBounds_toArray, List.set_cons_zero, List.set_cons_succ]
      refine wpQuiet_yields (.bool true) (Or.inl ⟨by rfl, fun W' hS => ?yq6⟩) ?_
      case yq6 =>
        go_simp
      try simp only [Act.put, List.setIfInBounds_toArray, List.set_cons_zero, List.set_cons_succ]
      go_big_quiet_skip
      go_big_quiet_skip
      go_big_quiet_skip
      go_big_quiet_skip
      go_big_quiet_skip
      go_big_quiet_skip
      go_big_quiet_skip
      go_big_quiet_skip
      go_big_quiet_skip
      refine wpQuiet_yields (.bool true) (Or.inl ⟨by rfl, fun W' hS => ?yq7⟩) ?_
      case yq7 =>
        go_simp
      try simp only [Act.put, List.setIfInBounds_toArray, List.set_cons_zero, List.set_cons_succ]
      refine wpQuiet_yields (.bool true) (Or.inl ⟨by rfl, fun W' hS => ?yq8⟩) ?_
      case yq8 =>
        go_simp
      try simp only [Act.put, List.setIfInBounds_toArray, List.set_cons_zero, List.set_cons_succ]
      go_big_quiet_skip
      go_big_quiet_skip
      go_big_quiet_skip
      go_big_quiet_skip
      go_big_quiet_skip
      refine wpQuiet_yields (.bool true) (Or.inl ⟨by rfl, fun W' hS => ?yq9⟩) ?_
      case yq9 =>
        go_simp
      try simp only [Act.put, List.setIfInBounds_toArray, List.set_cons_zero, List.set_cons_succ]
      refine wpQuiet_nil ?_
      intro wf hwf

      have r0 := (SB.row hwf HX.out.2).cell 0
      have f0 := (SB.row hwf HX.out.2).frozen 0
      simp only [List.getElem?_cons_zero] at r0
      gi_wp2
      exact ⟨((below_others hwf).trans (KeepsOthers.setCell _ _ _)).from _, HNP.out⟩
  case hdone =>
    rintro D' xs W' hD' hS ⟨_, hn, hk⟩ hK'
    have hxl : xs.length = LS.length := by have h := congrArg List.length hS; simpa using h
    rw [hxl, HD.out.2.2.2.2] at hn
    have hne := HN.out
    have hkb : ∀ (b : Nat) (T : TypeId) (l : List Value), b < wm.heap.size → b ≠ bn → Row wm b T l → Row W' b T l := fun b T l h1 h2 h3 => (hk.block b h1 h2).trans h3
    have x1 : Row W' bn 3 [.int .i64 nl] := hn
    have x2 := hkb bd _ _ (by omega) (by omega) HC.out.1
    have x3 := hkb bq _ _ (by omega) (by omega) HC.out.2.1
    have x4 := hkb q _ _ HD.out.2.2.1.lt (fun e => HD.out.2.1.fp e) HD.out.2.2.1
    have x5 := hkb br _ _ (by omega) (by omega) HC.out.2.2.1
    have hdW : DiskIs (fun k => k = bn) W' p D := HD.out.1.keeps hk (fun g _ h2 => h2)
    have hdD : DiskIs (fun k => k = bn) W'.drew p D := hdW.below (below_drewN (Below.refl _ _) 1)
    have hB6 : SB w W' := HC.out.2.2.2.1.trans (hk.below (B := w.heap.size) (HC.out.2.2.2.1.size) (fun k h => by omega))
    have HS0 : Hid (Row W'.drew bn 3 [.int .i64 nl] ∧ Row W'.drew bd 24 [.pointer (some ⟨p, 0, none⟩)] ∧ Row W'.drew bq 28 [.pointer (some ⟨q, 0, none⟩)] ∧ Row W'.drew q 36 RC) := Lib.hid ⟨x1.drew, x2.drew, x3.drew, x4.drew⟩
    have hnr : bn ≠ br ∧ bd ≠ br ∧ bq ≠ br := by omega
    have hqr : q ≠ br := fun e => by
      have h1 := HD.out.2.2.1
      have h2 := HC.out.2.2.1
      unfold Row at h1 h2
      rw [e, h2] at h1
      injection h1 with h1
      injection h1 with _ h3
      revert h3
      decide
    have HS6 : Hid (Row (W'.drew.setCell ⟨br, 0, none⟩ (.bool true)) bn 3 [.int .i64 nl] ∧ Row (W'.drew.setCell ⟨br, 0, none⟩ (.bool true)) bd 24 [.pointer (some ⟨p, 0, none⟩)] ∧ Row (W'.drew.setCell ⟨br, 0, none⟩ (.bool true)) bq 28 [.pointer (some ⟨q, 0, none⟩)] ∧ Row (W'.drew.setCell ⟨br, 0, none⟩ (.bool true)) q 36 RC) := Lib.hid ⟨x1.drew.far hnr.1 _, x2.drew.far hnr.2.1 _, x3.drew.far hnr.2.2 _, x4.drew.far hqr _⟩
    have HR5 := Lib.hid (And.intro x5 (And.intro hK' (And.intro hB6 hD')))
    have HSE : Hid (Calls Try.prog 22 #[.pointer (some ⟨p, 0, none⟩)] W'.drew fun e w' => e = .returned (.int .i64 nl) ∧ W'.drew = w') := Lib.hid (by
      obtain ⟨gl', gm', hv', Dm', hd'⟩ := hdD
      have h := Sectors_any hd'
      rw [HD.out.2.2.2.1, HD.out.2.2.2.2] at h
      exact h)
    have HDO : Hid (Calls Try.prog 11 #[.pointer (some ⟨p, 0, none⟩)] W'.drew fun e w' => e = .returned (.bool D.down) ∧ W'.drew = w') := Lib.hid (by
      obtain ⟨gl', gm', hv', Dm', hd'⟩ := hdD
      exact Down_any hd')
    have HST : Hid (Calls Try.prog 12 #[.pointer (some ⟨p, 0, none⟩)] W'.drew fun e w' => e = .returned (.int .i64 (D.steps : Nat)) ∧ W'.drew = w') := Lib.hid (by
      obtain ⟨gl', gm', hv', Dm', hd'⟩ := hdD
      exact Steps_any hd')
    have HHA : Hid (Calls Try.prog 18 #[.pointer (some ⟨p, 0, none⟩)] W'.drew fun e w' => e = .returned (.int .i64 (128 * (nh : Int))) ∧ W'.drew = w') := Lib.hid (by
      obtain ⟨gl', gm', hv', Dm', hd'⟩ := hdD
      have h := Hangs_any hd' (by have := HH.out.2; omega)
      rw [HNH.out, Int.mul_comm] at h
      exact h)
    have hnh6 : (nh : Int) < 1000000 := by have := HH.out.2; have := HNH.out; omega
    obtain ⟨sp, hsp⟩ : ∃ sp, D.steps = sp := ⟨_, rfl⟩
    obtain ⟨dn, hdn⟩ : ∃ dn, D.down = dn := ⟨_, rfl⟩
    rw [hsp] at HST HRC
    rw [hdn] at HDO HRC
    clear hn hk hS hxl hne hkb hnr hqr x1 x2 x3 x4 x5 hdW hdD hB6 hsp hdn hD' hK'
    go_wp2_with fail
    refine wp_region_noPanic ?_
    refine wp_region_held_drew (S := fun W => Row W bn 3 [.int .i64 nl] ∧ Row W bd 24 [.pointer (some ⟨p, 0, none⟩)] ∧ Row W bq 28 [.pointer (some ⟨q, 0, none⟩)] ∧ Row W q 36 RC) (by kernel_rfl) HS0.out (fun hHeld => ?_)
    refine wpAnyH_take (i := 0) (oi := { dst := some 72, op := Op.load 3 (Operand.tmp 6), type := 3, pos := "law.go:79", after := #[], guard := none }) (v := ?vve_0) rfl (by kernel_rfl) (by kernel_rfl) (by kernel_rfl) (fun _ _ _ h => h) (Or.inl ⟨by rfl, ?yye_0⟩) hHeld ?_
    case vve_0 => exact .int .i64 nl
    case yye_0 =>
      intro W hS
      have q0 := Row.cell hS.1 0
      simp only [List.getElem?_cons_zero] at q0
      go_simp
    try simp only [Act.put, List.setIfInBounds_toArray, List.set_cons_zero, List.set_cons_succ]
    refine wpAnyH_take (i := 1) (oi := { dst := some 73, op := Op.load 28 (Operand.tmp 3), type := 28, pos := "law.go:79", after := #[], guard := none }) (v := ?vve_1) rfl (by kernel_rfl) (by kernel_rfl) (by kernel_rfl) (fun _ _ _ h => h) (Or.inl ⟨by rfl, ?yye_1⟩) hHeld ?_
    case vve_1 => exact Value.pointer (some ⟨q, 0, none⟩)
    case yye_1 =>
      intro W hS
      have q0 := Row.cell hS.2.2.1 0
      simp only [List.getElem?_cons_zero] at q0
      go_simp
    try simp only [Act.put, List.setIfInBounds_toArray, List.set_cons_zero, List.set_cons_succ]
    refine wpAnyH_take (i := 2) (oi := { dst := some 74, op := Op.nilCheck (Operand.tmp 73), type := 0, pos := "law.go:79", after := #[{ on := 1, ground := Ground.data }], guard := none }) (v := ?vve_2) rfl (by kernel_rfl) (by kernel_rfl) (by kernel_rfl) (fun _ _ _ h => h) (Or.inl ⟨by rfl, ?yye_2⟩) hHeld ?_
    case vve_2 => exact Value.pointer (some ⟨q, 0, none⟩)
    case yye_2 =>
      intro W hS
      go_simp
    try simp only [Act.put, List.setIfInBounds_toArray, List.set_cons_zero, List.set_cons_succ]
    refine wpAnyH_take (i := 3) (oi := { dst := some 75, op := Op.fieldAddr 36 (Operand.tmp 74) 0, type := 0, pos := "law.go:79", after := #[{ on := 2, ground := Ground.data }], guard := none }) (v := ?vve_3) rfl (by kernel_rfl) (by kernel_rfl) (by kernel_rfl) (fun _ _ _ h => h) (Or.inl ⟨by rfl, ?yye_3⟩) hHeld ?_
    case vve_3 => exact .pointer (some ⟨q, 0, none⟩)
    case yye_3 =>
      intro W hS
      go_simp
    try simp only [Act.put, List.setIfInBounds_toArray, List.set_cons_zero, List.set_cons_succ]
    refine wpAnyH_take (i := 4) (oi := { dst := some 76, op := Op.load 33 (Operand.tmp 75), type := 33, pos := "law.go:79", after := #[{ on := 3, ground := Ground.data }], guard := none }) (v := ?vve_4) rfl (by kernel_rfl) (by kernel_rfl) (by kernel_rfl) (fun _ _ _ h => h) (Or.inl ⟨by rfl, ?yye_4⟩) hHeld ?_
    case vve_4 => exact .slice (some ⟨gr, 0, none⟩) nl nl
    case yye_4 =>
      intro W hS
      have q0 := Row.cell hS.2.2.2 0
      simp only [HRC.out, List.getElem?_cons_zero, List.getElem?_cons_succ] at q0
      go_simp
    try simp only [Act.put, List.setIfInBounds_toArray, List.set_cons_zero, List.set_cons_succ]
    refine wpAnyH_take (i := 5) (oi := { dst := some 77, op := Op.call { callee := Callee.builtin Builtin.len, args := #[Operand.tmp 76], argTypes := #[33] }, type := 3, pos := "law.go:79", after := #[{ on := 4, ground := Ground.data }], guard := none }) (v := ?vve_5) rfl (by kernel_rfl) (by kernel_rfl) (by kernel_rfl) (fun _ _ _ h => h) (Or.inl ⟨by rfl, ?yye_5⟩) hHeld ?_
    case vve_5 => exact .int .i64 nl
    case yye_5 =>
      intro W hS
      go_simp
    try simp only [Act.put, List.setIfInBounds_toArray, List.set_cons_zero, List.set_cons_succ]
    refine wpAnyH_take (i := 6) (oi := { dst := some 78, op := Op.binOp BinOp.eql 3 (Operand.tmp 72) (Operand.tmp 77) 3, type := 4, pos := "law.go:79", after := #[{ on := 0, ground := Ground.data }, { on := 5, ground := Ground.data }], guard := none }) (v := ?vve_6) rfl (by kernel_rfl) (by kernel_rfl) (by kernel_rfl) (fun _ _ _ h => h) (Or.inl ⟨by rfl, ?yye_6⟩) hHeld ?_
    case vve_6 => exact .bool true
    case yye_6 =>
      intro W hS
      go_simp
    try simp only [Act.put, List.setIfInBounds_toArray, List.set_cons_zero, List.set_cons_succ]
    refine wpAnyH_take (i := 7) (oi := { dst := some 79, op := Op.move (Operand.tmp 78), type := 4, pos := "law.go:79", after := #[{ on := 6, ground := Ground.data }], guard := none }) (v := ?vve_7) rfl (by kernel_rfl) (by kernel_rfl) (by kernel_rfl) (fun _ _ _ h => h) (Or.inl ⟨by rfl, ?yye_7⟩) hHeld ?_
    case vve_7 => exact .bool true
    case yye_7 =>
      intro W hS
      go_simp
    try simp only [Act.put, List.setIfInBounds_toArray, List.set_cons_zero, List.set_cons_succ]
    refine wpAnyH_take (i := 8) (oi := { dst := some 80, op := Op.load 24 (Operand.tmp 2), type := 24, pos := "law.go:79", after := #[{ on := 7, ground := Ground.guard }], guard := some (7, true) }) (v := ?vve_8) rfl (by kernel_rfl) (by kernel_rfl) (by kernel_rfl) (fun _ _ _ h => h) (Or.inl ⟨by rfl, ?yye_8⟩) hHeld ?_
    case vve_8 => exact Value.pointer (some ⟨p, 0, none⟩)
    case yye_8 =>
      intro W hS
      have q0 := Row.cell hS.2.1 0
      simp only [List.getElem?_cons_zero] at q0
      go_simp
    try simp only [Act.put, List.setIfInBounds_toArray, List.set_cons_zero, List.set_cons_succ]
    refine wpAnyH_take (i := 10) (oi := { dst := some 82, op := Op.load 3 (Operand.tmp 6), type := 3, pos := "law.go:79", after := #[{ on := 7, ground := Ground.guard }], guard := some (7, true) }) (v := ?vve_10) rfl (by kernel_rfl) (by kernel_rfl) (by kernel_rfl) (fun _ _ _ h => h) (Or.inl ⟨by rfl, ?yye_10⟩) hHeld ?_
    case vve_10 => exact .int .i64 nl
    case yye_10 =>
      intro W hS
      have q0 := Row.cell hS.1 0
      simp only [List.getElem?_cons_zero] at q0
      go_simp
    try simp only [Act.put, List.setIfInBounds_toArray, List.set_cons_zero, List.set_cons_succ]
    refine wpAnyH_ready (rs := [9]) (by kernel_rfl) (by simp) (AllReadyH.cons (o := { dst := some 81, op := Op.call { callee := Callee.value (Operand.func 22), args := #[Operand.tmp 80], argTypes := #[24] }, type := 3, pos := "law.go:79", after := #[{ on := 8, ground := Ground.data }, { on := 7, ground := Ground.chain }, { on := 7, ground := Ground.guard }], guard := some (7, true) }) rfl (fun K hK => ?_) AllReadyH.nil)
    go_simp
    go_at_call 22
    refine HSE.out.mono ?_
    rintro e w1 ⟨rfl, rfl⟩
    refine hK.out _ _ HS0.out (fun hHeld => ?_)
    clear hK K
    try simp only [Act.put, List.setIfInBounds_toArray, List.set_cons_zero, List.set_cons_succ]
    refine wpAnyH_take (i := 11) (oi := { dst := some 83, op := Op.binOp BinOp.eql 3 (Operand.tmp 81) (Operand.tmp 82) 3, type := 4, pos := "law.go:79", after := #[{ on := 9, ground := Ground.data }, { on := 10, ground := Ground.data }, { on := 7, ground := Ground.guard }], guard := some (7, true) }) (v := ?vve_11) rfl (by kernel_rfl) (by kernel_rfl) (by kernel_rfl) (fun _ _ _ h => h) (Or.inl ⟨by rfl, ?yye_11⟩) hHeld ?_
    case vve_11 => exact .bool true
    case yye_11 =>
      intro W hS
      go_simp
    try simp only [Act.put, List.setIfInBounds_toArray, List.set_cons_zero, List.set_cons_succ]
    refine wpAnyH_take (i := 12) (oi := { dst := some 84, op := Op.pick (Operand.tmp 79) (Operand.tmp 83) (Operand.const (Value.bool false)), type := 4, pos := "law.go:79", after := #[{ on := 7, ground := Ground.data }, { on := 11, ground := Ground.data }], guard := none }) (v := ?vve_12) rfl (by kernel_rfl) (by kernel_rfl) (by kernel_rfl) (fun _ _ _ h => h) (Or.inl ⟨by rfl, ?yye_12⟩) hHeld ?_
    case vve_12 => exact .bool true
    case yye_12 =>
      intro W hS
      go_simp
    try simp only [Act.put, List.setIfInBounds_toArray, List.set_cons_zero, List.set_cons_succ]
    refine wpAnyH_take (i := 13) (oi := { dst := some 85, op := Op.move (Operand.tmp 84), type := 4, pos := "law.go:79", after := #[{ on := 12, ground := Ground.data }, { on := 9, ground := Ground.chain }], guard := none }) (v := ?vve_13) rfl (by kernel_rfl) (by kernel_rfl) (by kernel_rfl) (fun _ _ _ h => h) (Or.inl ⟨by rfl, ?yye_13⟩) hHeld ?_
    case vve_13 => exact .bool true
    case yye_13 =>
      intro W hS
      go_simp
    try simp only [Act.put, List.setIfInBounds_toArray, List.set_cons_zero, List.set_cons_succ]
    refine wpAnyH_take (i := 14) (oi := { dst := some 86, op := Op.load 24 (Operand.tmp 2), type := 24, pos := "law.go:79", after := #[{ on := 13, ground := Ground.guard }], guard := some (13, true) }) (v := ?vve_14) rfl (by kernel_rfl) (by kernel_rfl) (by kernel_rfl) (fun _ _ _ h => h) (Or.inl ⟨by rfl, ?yye_14⟩) hHeld ?_
    case vve_14 => exact Value.pointer (some ⟨p, 0, none⟩)
    case yye_14 =>
      intro W hS
      have q0 := Row.cell hS.2.1 0
      simp only [List.getElem?_cons_zero] at q0
      go_simp
    try simp only [Act.put, List.setIfInBounds_toArray, List.set_cons_zero, List.set_cons_succ]
    refine wpAnyH_take (i := 16) (oi := { dst := some 88, op := Op.load 28 (Operand.tmp 3), type := 28, pos := "law.go:79", after := #[{ on := 13, ground := Ground.guard }], guard := some (13, true) }) (v := ?vve_16) rfl (by kernel_rfl) (by kernel_rfl) (by kernel_rfl) (fun _ _ _ h => h) (Or.inl ⟨by rfl, ?yye_16⟩) hHeld ?_
    case vve_16 => exact Value.pointer (some ⟨q, 0, none⟩)
    case yye_16 =>
      intro W hS
      have q0 := Row.cell hS.2.2.1 0
      simp only [List.getElem?_cons_zero] at q0
      go_simp
    try simp only [Act.put, List.setIfInBounds_toArray, List.set_cons_zero, List.set_cons_succ]
    refine wpAnyH_take (i := 17) (oi := { dst := some 89, op := Op.nilCheck (Operand.tmp 88), type := 0, pos := "law.go:79", after := #[{ on := 16, ground := Ground.data }, { on := 13, ground := Ground.guard }], guard := some (13, true) }) (v := ?vve_17) rfl (by kernel_rfl) (by kernel_rfl) (by kernel_rfl) (fun _ _ _ h => h) (Or.inl ⟨by rfl, ?yye_17⟩) hHeld ?_
    case vve_17 => exact Value.pointer (some ⟨q, 0, none⟩)
    case yye_17 =>
      intro W hS
      go_simp
    try simp only [Act.put, List.setIfInBounds_toArray, List.set_cons_zero, List.set_cons_succ]
    refine wpAnyH_take (i := 18) (oi := { dst := some 90, op := Op.fieldAddr 36 (Operand.tmp 89) 4, type := 0, pos := "law.go:79", after := #[{ on := 17, ground := Ground.data }, { on := 13, ground := Ground.guard }], guard := some (13, true) }) (v := ?vve_18) rfl (by kernel_rfl) (by kernel_rfl) (by kernel_rfl) (fun _ _ _ h => h) (Or.inl ⟨by rfl, ?yye_18⟩) hHeld ?_
    case vve_18 => exact .pointer (some ⟨q, 4, none⟩)
    case yye_18 =>
      intro W hS
      go_simp
    try simp only [Act.put, List.setIfInBounds_toArray, List.set_cons_zero, List.set_cons_succ]
    refine wpAnyH_take (i := 19) (oi := { dst := some 91, op := Op.load 4 (Operand.tmp 90), type := 4, pos := "law.go:79", after := #[{ on := 18, ground := Ground.data }, { on := 13, ground := Ground.guard }], guard := some (13, true) }) (v := ?vve_19) rfl (by kernel_rfl) (by kernel_rfl) (by kernel_rfl) (fun _ _ _ h => h) (Or.inl ⟨by rfl, ?yye_19⟩) hHeld ?_
    case vve_19 => exact .bool dn
    case yye_19 =>
      intro W hS
      have q0 := Row.cell hS.2.2.2 4
      simp only [HRC.out, List.getElem?_cons_zero, List.getElem?_cons_succ] at q0
      go_simp
    try simp only [Act.put, List.setIfInBounds_toArray, List.set_cons_zero, List.set_cons_succ]
    refine wpAnyH_ready (rs := [15]) (by kernel_rfl) (by simp) (AllReadyH.cons (o := { dst := some 87, op := Op.call { callee := Callee.value (Operand.func 11), args := #[Operand.tmp 86], argTypes := #[24] }, type := 4, pos := "law.go:79", after := #[{ on := 14, ground := Ground.data }, { on := 13, ground := Ground.chain }, { on := 13, ground := Ground.guard }], guard := some (13, true) }) rfl (fun K hK => ?_) AllReadyH.nil)
    go_simp
    go_at_call 11
    refine HDO.out.mono ?_
    rintro e w1 ⟨rfl, rfl⟩
    refine hK.out _ _ HS0.out (fun hHeld => ?_)
    clear hK K
    try simp only [Act.put, List.setIfInBounds_toArray, List.set_cons_zero, List.set_cons_succ]
    refine wpAnyH_take (i := 20) (oi := { dst := some 92, op := Op.binOp BinOp.eql 4 (Operand.tmp 87) (Operand.tmp 91) 4, type := 4, pos := "law.go:79", after := #[{ on := 15, ground := Ground.data }, { on := 19, ground := Ground.data }, { on := 13, ground := Ground.guard }], guard := some (13, true) }) (v := ?vve_20) rfl (by kernel_rfl) (by kernel_rfl) (by kernel_rfl) (fun _ _ _ h => h) (Or.inl ⟨by rfl, ?yye_20⟩) hHeld ?_
    case vve_20 => exact .bool true
    case yye_20 =>
      intro W hS
      go_simp
    try simp only [Act.put, List.setIfInBounds_toArray, List.set_cons_zero, List.set_cons_succ]
    refine wpAnyH_take (i := 21) (oi := { dst := some 93, op := Op.pick (Operand.tmp 85) (Operand.tmp 92) (Operand.const (Value.bool false)), type := 4, pos := "law.go:79", after := #[{ on := 13, ground := Ground.data }, { on := 20, ground := Ground.data }], guard := none }) (v := ?vve_21) rfl (by kernel_rfl) (by kernel_rfl) (by kernel_rfl) (fun _ _ _ h => h) (Or.inl ⟨by rfl, ?yye_21⟩) hHeld ?_
    case vve_21 => exact .bool true
    case yye_21 =>
      intro W hS
      go_simp
    try simp only [Act.put, List.setIfInBounds_toArray, List.set_cons_zero, List.set_cons_succ]
    refine wpAnyH_take (i := 22) (oi := { dst := some 94, op := Op.move (Operand.tmp 93), type := 4, pos := "law.go:79", after := #[{ on := 21, ground := Ground.data }, { on := 15, ground := Ground.chain }], guard := none }) (v := ?vve_22) rfl (by kernel_rfl) (by kernel_rfl) (by kernel_rfl) (fun _ _ _ h => h) (Or.inl ⟨by rfl, ?yye_22⟩) hHeld ?_
    case vve_22 => exact .bool true
    case yye_22 =>
      intro W hS
      go_simp
    try simp only [Act.put, List.setIfInBounds_toArray, List.set_cons_zero, List.set_cons_succ]
    refine wpAnyH_take (i := 23) (oi := { dst := some 95, op := Op.load 24 (Operand.tmp 2), type := 24, pos := "law.go:79", after := #[{ on := 22, ground := Ground.guard }], guard := some (22, true) }) (v := ?vve_23) rfl (by kernel_rfl) (by kernel_rfl) (by kernel_rfl) (fun _ _ _ h => h) (Or.inl ⟨by rfl, ?yye_23⟩) hHeld ?_
    case vve_23 => exact Value.pointer (some ⟨p, 0, none⟩)
    case yye_23 =>
      intro W hS
      have q0 := Row.cell hS.2.1 0
      simp only [List.getElem?_cons_zero] at q0
      go_simp
    try simp only [Act.put, List.setIfInBounds_toArray, List.set_cons_zero, List.set_cons_succ]
    refine wpAnyH_take (i := 25) (oi := { dst := some 97, op := Op.load 28 (Operand.tmp 3), type := 28, pos := "law.go:79", after := #[{ on := 22, ground := Ground.guard }], guard := some (22, true) }) (v := ?vve_25) rfl (by kernel_rfl) (by kernel_rfl) (by kernel_rfl) (fun _ _ _ h => h) (Or.inl ⟨by rfl, ?yye_25⟩) hHeld ?_
    case vve_25 => exact Value.pointer (some ⟨q, 0, none⟩)
    case yye_25 =>
      intro W hS
      have q0 := Row.cell hS.2.2.1 0
      simp only [List.getElem?_cons_zero] at q0
      go_simp
    try simp only [Act.put, List.setIfInBounds_toArray, List.set_cons_zero, List.set_cons_succ]
    refine wpAnyH_take (i := 26) (oi := { dst := some 98, op := Op.nilCheck (Operand.tmp 97), type := 0, pos := "law.go:79", after := #[{ on := 25, ground := Ground.data }, { on := 22, ground := Ground.guard }], guard := some (22, true) }) (v := ?vve_26) rfl (by kernel_rfl) (by kernel_rfl) (by kernel_rfl) (fun _ _ _ h => h) (Or.inl ⟨by rfl, ?yye_26⟩) hHeld ?_
    case vve_26 => exact Value.pointer (some ⟨q, 0, none⟩)
    case yye_26 =>
      intro W hS
      go_simp
    try simp only [Act.put, List.setIfInBounds_toArray, List.set_cons_zero, List.set_cons_succ]
    refine wpAnyH_take (i := 27) (oi := { dst := some 99, op := Op.fieldAddr 36 (Operand.tmp 98) 2, type := 0, pos := "law.go:79", after := #[{ on := 26, ground := Ground.data }, { on := 22, ground := Ground.guard }], guard := some (22, true) }) (v := ?vve_27) rfl (by kernel_rfl) (by kernel_rfl) (by kernel_rfl) (fun _ _ _ h => h) (Or.inl ⟨by rfl, ?yye_27⟩) hHeld ?_
    case vve_27 => exact .pointer (some ⟨q, 2, none⟩)
    case yye_27 =>
      intro W hS
      go_simp
    try simp only [Act.put, List.setIfInBounds_toArray, List.set_cons_zero, List.set_cons_succ]
    refine wpAnyH_take (i := 28) (oi := { dst := some 100, op := Op.load 3 (Operand.tmp 99), type := 3, pos := "law.go:79", after := #[{ on := 27, ground := Ground.data }, { on := 22, ground := Ground.guard }], guard := some (22, true) }) (v := ?vve_28) rfl (by kernel_rfl) (by kernel_rfl) (by kernel_rfl) (fun _ _ _ h => h) (Or.inl ⟨by rfl, ?yye_28⟩) hHeld ?_
    case vve_28 => exact .int .i64 sp
    case yye_28 =>
      intro W hS
      have q0 := Row.cell hS.2.2.2 2
      simp only [HRC.out, List.getElem?_cons_zero, List.getElem?_cons_succ] at q0
      go_simp
    try simp only [Act.put, List.setIfInBounds_toArray, List.set_cons_zero, List.set_cons_succ]
    refine wpAnyH_ready (rs := [24]) (by kernel_rfl) (by simp) (AllReadyH.cons (o := { dst := some 96, op := Op.call { callee := Callee.value (Operand.func 12), args := #[Operand.tmp 95], argTypes := #[24] }, type := 3, pos := "law.go:79", after := #[{ on := 23, ground := Ground.data }, { on := 22, ground := Ground.chain }, { on := 22, ground := Ground.guard }], guard := some (22, true) }) rfl (fun K hK => ?_) AllReadyH.nil)
    go_simp
    go_at_call 12
    refine HST.out.mono ?_
    rintro e w1 ⟨rfl, rfl⟩
    refine hK.out _ _ HS0.out (fun hHeld => ?_)
    clear hK K
    try simp only [Act.put, List.setIfInBounds_toArray, List.set_cons_zero, List.set_cons_succ]
    refine wpAnyH_take (i := 29) (oi := { dst := some 101, op := Op.binOp BinOp.eql 3 (Operand.tmp 96) (Operand.tmp 100) 3, type := 4, pos := "law.go:79", after := #[{ on := 24, ground := Ground.data }, { on := 28, ground := Ground.data }, { on := 22, ground := Ground.guard }], guard := some (22, true) }) (v := ?vve_29) rfl (by kernel_rfl) (by kernel_rfl) (by kernel_rfl) (fun _ _ _ h => h) (Or.inl ⟨by rfl, ?yye_29⟩) hHeld ?_
    case vve_29 => exact .bool true
    case yye_29 =>
      intro W hS
      go_simp
    try simp only [Act.put, List.setIfInBounds_toArray, List.set_cons_zero, List.set_cons_succ]
    refine wpAnyH_take (i := 30) (oi := { dst := some 102, op := Op.pick (Operand.tmp 94) (Operand.tmp 101) (Operand.const (Value.bool false)), type := 4, pos := "law.go:79", after := #[{ on := 22, ground := Ground.data }, { on := 29, ground := Ground.data }], guard := none }) (v := ?vve_30) rfl (by kernel_rfl) (by kernel_rfl) (by kernel_rfl) (fun _ _ _ h => h) (Or.inl ⟨by rfl, ?yye_30⟩) hHeld ?_
    case vve_30 => exact .bool true
    case yye_30 =>
      intro W hS
      go_simp
    try simp only [Act.put, List.setIfInBounds_toArray, List.set_cons_zero, List.set_cons_succ]
    refine wpAnyH_take (i := 31) (oi := { dst := some 103, op := Op.move (Operand.tmp 102), type := 4, pos := "law.go:79", after := #[{ on := 30, ground := Ground.data }, { on := 24, ground := Ground.chain }], guard := none }) (v := ?vve_31) rfl (by kernel_rfl) (by kernel_rfl) (by kernel_rfl) (fun _ _ _ h => h) (Or.inl ⟨by rfl, ?yye_31⟩) hHeld ?_
    case vve_31 => exact .bool true
    case yye_31 =>
      intro W hS
      go_simp
    try simp only [Act.put, List.setIfInBounds_toArray, List.set_cons_zero, List.set_cons_succ]
    refine wpAnyH_take (i := 32) (oi := { dst := some 104, op := Op.load 24 (Operand.tmp 2), type := 24, pos := "law.go:79", after := #[{ on := 31, ground := Ground.guard }], guard := some (31, true) }) (v := ?vve_32) rfl (by kernel_rfl) (by kernel_rfl) (by kernel_rfl) (fun _ _ _ h => h) (Or.inl ⟨by rfl, ?yye_32⟩) hHeld ?_
    case vve_32 => exact Value.pointer (some ⟨p, 0, none⟩)
    case yye_32 =>
      intro W hS
      have q0 := Row.cell hS.2.1 0
      simp only [List.getElem?_cons_zero] at q0
      go_simp
    try simp only [Act.put, List.setIfInBounds_toArray, List.set_cons_zero, List.set_cons_succ]
    refine wpAnyH_take (i := 34) (oi := { dst := some 106, op := Op.load 28 (Operand.tmp 3), type := 28, pos := "law.go:79", after := #[{ on := 31, ground := Ground.guard }], guard := some (31, true) }) (v := ?vve_34) rfl (by kernel_rfl) (by kernel_rfl) (by kernel_rfl) (fun _ _ _ h => h) (Or.inl ⟨by rfl, ?yye_34⟩) hHeld ?_
    case vve_34 => exact Value.pointer (some ⟨q, 0, none⟩)
    case yye_34 =>
      intro W hS
      have q0 := Row.cell hS.2.2.1 0
      simp only [List.getElem?_cons_zero] at q0
      go_simp
    try simp only [Act.put, List.setIfInBounds_toArray, List.set_cons_zero, List.set_cons_succ]
    refine wpAnyH_take (i := 35) (oi := { dst := some 107, op := Op.nilCheck (Operand.tmp 106), type := 0, pos := "law.go:79", after := #[{ on := 34, ground := Ground.data }, { on := 31, ground := Ground.guard }], guard := some (31, true) }) (v := ?vve_35) rfl (by kernel_rfl) (by kernel_rfl) (by kernel_rfl) (fun _ _ _ h => h) (Or.inl ⟨by rfl, ?yye_35⟩) hHeld ?_
    case vve_35 => exact Value.pointer (some ⟨q, 0, none⟩)
    case yye_35 =>
      intro W hS
      go_simp
    try simp only [Act.put, List.setIfInBounds_toArray, List.set_cons_zero, List.set_cons_succ]
    refine wpAnyH_take (i := 36) (oi := { dst := some 108, op := Op.fieldAddr 36 (Operand.tmp 107) 1, type := 0, pos := "law.go:79", after := #[{ on := 35, ground := Ground.data }, { on := 31, ground := Ground.guard }], guard := some (31, true) }) (v := ?vve_36) rfl (by kernel_rfl) (by kernel_rfl) (by kernel_rfl) (fun _ _ _ h => h) (Or.inl ⟨by rfl, ?yye_36⟩) hHeld ?_
    case vve_36 => exact .pointer (some ⟨q, 1, none⟩)
    case yye_36 =>
      intro W hS
      go_simp
    try simp only [Act.put, List.setIfInBounds_toArray, List.set_cons_zero, List.set_cons_succ]
    refine wpAnyH_take (i := 37) (oi := { dst := some 109, op := Op.load 34 (Operand.tmp 108), type := 34, pos := "law.go:79", after := #[{ on := 36, ground := Ground.data }, { on := 31, ground := Ground.guard }], guard := some (31, true) }) (v := ?vve_37) rfl (by kernel_rfl) (by kernel_rfl) (by kernel_rfl) (fun _ _ _ h => h) (Or.inl ⟨by rfl, ?yye_37⟩) hHeld ?_
    case vve_37 => exact .slice ha nh hc
    case yye_37 =>
      intro W hS
      have q0 := Row.cell hS.2.2.2 1
      simp only [HRC.out, List.getElem?_cons_zero, List.getElem?_cons_succ] at q0
      go_simp
    try simp only [Act.put, List.setIfInBounds_toArray, List.set_cons_zero, List.set_cons_succ]
    refine wpAnyH_take (i := 38) (oi := { dst := some 110, op := Op.call { callee := Callee.builtin Builtin.len, args := #[Operand.tmp 109], argTypes := #[34] }, type := 3, pos := "law.go:79", after := #[{ on := 37, ground := Ground.data }, { on := 31, ground := Ground.guard }], guard := some (31, true) }) (v := ?vve_38) rfl (by kernel_rfl) (by kernel_rfl) (by kernel_rfl) (fun _ _ _ h => h) (Or.inl ⟨by rfl, ?yye_38⟩) hHeld ?_
    case vve_38 => exact .int .i64 nh
    case yye_38 =>
      intro W hS
      go_simp
    try simp only [Act.put, List.setIfInBounds_toArray, List.set_cons_zero, List.set_cons_succ]
    refine wpAnyH_take (i := 39) (oi := { dst := some 111, op := Op.binOp BinOp.mul 3 (Operand.const (Value.int IntKind.i64 128)) (Operand.tmp 110) 3, type := 3, pos := "law.go:79", after := #[{ on := 38, ground := Ground.data }, { on := 31, ground := Ground.guard }], guard := some (31, true) }) (v := ?vve_39) rfl (by kernel_rfl) (by kernel_rfl) (by kernel_rfl) (fun _ _ _ h => h) (Or.inl ⟨by rfl, ?yye_39⟩) hHeld ?_
    case vve_39 => exact .int .i64 (128 * (nh : Int))
    case yye_39 =>
      intro W hS
      go_simp
      rw [IntKind.wrap_i64]
      omega
    try simp only [Act.put, List.setIfInBounds_toArray, List.set_cons_zero, List.set_cons_succ]
    refine wpAnyH_ready (rs := [33]) (by kernel_rfl) (by simp) (AllReadyH.cons (o := { dst := some 105, op := Op.call { callee := Callee.value (Operand.func 18), args := #[Operand.tmp 104], argTypes := #[24] }, type := 3, pos := "law.go:79", after := #[{ on := 32, ground := Ground.data }, { on := 31, ground := Ground.chain }, { on := 31, ground := Ground.guard }], guard := some (31, true) }) rfl (fun K hK => ?_) AllReadyH.nil)
    go_simp
    go_at_call 18
    refine HHA.out.mono ?_
    rintro e w1 ⟨rfl, rfl⟩
    refine hK.out _ _ HS0.out (fun hHeld => ?_)
    clear hK K
    try simp only [Act.put, List.setIfInBounds_toArray, List.set_cons_zero, List.set_cons_succ]
    refine wpAnyH_take (i := 40) (oi := { dst := some 112, op := Op.binOp BinOp.eql 3 (Operand.tmp 105) (Operand.tmp 111) 3, type := 4, pos := "law.go:79", after := #[{ on := 33, ground := Ground.data }, { on := 39, ground := Ground.data }, { on := 31, ground := Ground.guard }], guard := some (31, true) }) (v := ?vve_40) rfl (by kernel_rfl) (by kernel_rfl) (by kernel_rfl) (fun _ _ _ h => h) (Or.inl ⟨by rfl, ?yye_40⟩) hHeld ?_
    case vve_40 => exact .bool true
    case yye_40 =>
      intro W hS
      go_simp
    try simp only [Act.put, List.setIfInBounds_toArray, List.set_cons_zero, List.set_cons_succ]
    refine wpAnyH_take (i := 41) (oi := { dst := some 113, op := Op.pick (Operand.tmp 103) (Operand.tmp 112) (Operand.const (Value.bool false)), type := 4, pos := "law.go:79", after := #[{ on := 31, ground := Ground.data }, { on := 40, ground := Ground.data }], guard := none }) (v := ?vve_41) rfl (by kernel_rfl) (by kernel_rfl) (by kernel_rfl) (fun _ _ _ h => h) (Or.inl ⟨by rfl, ?yye_41⟩) hHeld ?_
    case vve_41 => exact .bool true
    case yye_41 =>
      intro W hS
      go_simp
    try simp only [Act.put, List.setIfInBounds_toArray, List.set_cons_zero, List.set_cons_succ]
    refine wpAnyH_ready (rs := [42]) (by kernel_rfl) (by simp) (AllReadyH.cons (o := { dst := none, op := Op.store 4 (Operand.tmp 4) (Operand.tmp 113), type := 0, pos := "law.go:79", after := #[{ on := 41, ground := Ground.data }, { on := 33, ground := Ground.chain }, { on := 0, ground := Ground.phase }, { on := 1, ground := Ground.phase }, { on := 2, ground := Ground.phase }, { on := 3, ground := Ground.phase }, { on := 4, ground := Ground.phase }, { on := 5, ground := Ground.phase }, { on := 6, ground := Ground.phase }, { on := 7, ground := Ground.phase }, { on := 8, ground := Ground.phase }, { on := 9, ground := Ground.phase }, { on := 10, ground := Ground.phase }, { on := 11, ground := Ground.phase }, { on := 12, ground := Ground.phase }, { on := 13, ground := Ground.phase }, { on := 14, ground := Ground.phase }, { on := 15, ground := Ground.phase }, { on := 16, ground := Ground.phase }, { on := 17, ground := Ground.phase }, { on := 18, ground := Ground.phase }, { on := 19, ground := Ground.phase }, { on := 20, ground := Ground.phase }, { on := 21, ground := Ground.phase }, { on := 22, ground := Ground.phase }, { on := 23, ground := Ground.phase }, { on := 24, ground := Ground.phase }, { on := 25, ground := Ground.phase }, { on := 26, ground := Ground.phase }, { on := 27, ground := Ground.phase }, { on := 28, ground := Ground.phase }, { on := 29, ground := Ground.phase }, { on := 30, ground := Ground.phase }, { on := 31, ground := Ground.phase }, { on := 32, ground := Ground.phase }, { on := 33, ground := Ground.phase }, { on := 34, ground := Ground.phase }, { on := 35, ground := Ground.phase }, { on := 36, ground := Ground.phase }, { on := 37, ground := Ground.phase }, { on := 38, ground := Ground.phase }, { on := 39, ground := Ground.phase }, { on := 40, ground := Ground.phase }, { on := 41, ground := Ground.phase }], guard := none }) rfl (fun K hK => ?_) AllReadyH.nil)
    have r5 := (Row.drew HR5.out.1).cell 0
    have f5 := (Row.drew HR5.out.1).frozen 0
    simp only [List.getElem?_cons_zero] at r5
    go_simp
    refine hK.out _ _ HS6.out (fun hHeld => ?_)
    clear hK K r5 f5
    try simp only [Act.put, List.setIfInBounds_toArray, List.set_cons_zero, List.set_cons_succ]
    refine wpAnyH_done (by kernel_rfl) ?_ _
    refine NoPanic.normal ?_

    go_wp2_with fail
    obtain ⟨x5, hK', hB6, hD'⟩ := HR5.out
    have hne := HN.out
    have hK5 : ((W'.setCell ⟨br, 0, none⟩ (.bool true)).drew).heap[D']? = some (.deferred (some [])) := (Below.heap_setCell W' ⟨br, 0, none⟩ (.bool true) D' (by show D' ≠ br; omega)).trans hK'
    have hB7 : Below w.heap.size w ((W'.setCell ⟨br, 0, none⟩ (.bool true)).drew) := below_drewN (hB6.setCell (p := ⟨br, 0, none⟩) (by show w.heap.size ≤ br; omega) _) 1
    have hR6 : (((W'.setCell ⟨br, 0, none⟩ (.bool true)).drew).putObj D' (.deferred none)).cell? ⟨br, 0, none⟩ = some (.bool true) := by
      have h2 : Boxed (((W'.setCell ⟨br, 0, none⟩ (.bool true)).drew).putObj D' (.deferred none)) br 4 (.bool true) := (World.putObj_heap_other (by omega)).trans (Row.drew (x5.set 0 (.bool true)))
      exact h2.cell
    refine ⟨by simp, .inl ⟨_, _, rfl, run_takeDeferred hK5, ?_⟩⟩
    exact ⟨.bool true, by simp [results, Try.f13, go_sem, hR6], rfl, hB7.trans (belowK_b (w := w) (Nat.le_refl _) _ D' _ _ (by omega) hK5 rfl rfl)⟩
end
end Go.Proofs.Ytcecibopanfmgaa
