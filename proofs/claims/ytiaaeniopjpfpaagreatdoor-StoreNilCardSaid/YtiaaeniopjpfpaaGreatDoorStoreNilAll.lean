/- The statement of StoreNil: whatever comes in, the law answers true, and what came in reads as it did. (In one text with what it leans on: QSame, StText, LAdd, StDo, ShelfT, LBytes, LWipe, LOpen, StOpen, LPl2, Awk, Awk5, LAwk, LNil, StAwk, StNil, StoreNil.) -/
import Derived.Shelf.Strings.Trim
import Derived.Below
import Derived.WalkKit
import Derived.RangeFuncBox
import Derived.Maps.AppendAt
import Derived.WalkSpells
import Derived.WalkLawsBesides
import Derived.Lib.Hide
import Derived.Deep.QuietTactic
import Derived.BigQuiet
import Derived.ProofKit
import Derived.OpenShut
import Derived.ShutString
import Derived.SizedLaws
import Derived.LaidMore
import Derived.Lay
import Derived.Stop.Joined
import Derived.SevenTiedAt
import Derived.Test.YtiaaeniopjpfpaaGreatDoorStoreNilAll1
import Derived.Test.YtiaaeniopjpfpaaGreatDoorProg
import Derived.Test.YtiaaeniopjpfpaaGreatDoorRows
import Derived.Test.YtiaaeniopjpfpaaGreatDoorPlain
import Derived.Test.YtiaaeniopjpfpaaGreatDoorMem
import Derived.Test.YtiaaeniopjpfpaaGreatDoorPut
import Derived.Test.YtiaaeniopjpfpaaGreatDoorCsum
import Derived.Test.YtiaaeniopjpfpaaGreatDoorSText
import Derived.Test.YtiaaeniopjpfpaaGreatDoorKAwk
import Derived.Test.YtiaaeniopjpfpaaGreatDoorCards
import Derived.Test.YtiaaeniopjpfpaaGreatDoorTie
import Derived.Test.YtiaaeniopjpfpaaGreatDoorLaidL
namespace Go.Proofs.YtiaaeniopjpfpaaGreatDoor
open Go.RowKit Go.Maps Go.Shelf
set_option linter.unusedVariables false
set_option linter.unusedSimpArgs false
attribute [local go_sem] Oper.semAt_some

section
variable {P : Program} {ops : Array Oper} {C : World → Prop}
theorem wpQuiet_call {Q : Act → Prop} {a : Act} {o : Oper} {rest : List Oper} (v : Value) (fn : FuncId) (vals : Array Value) (hw : Region.wanted o (yielded ops a.tmps) = true) (hx : ∀ w, (execOp a.eval o).run P w = .ok (.enter fn vals) w)
    (hc : ∀ w, C w → Calls P fn vals w (fun e w'' => e = .returned v ∧ C w'')) (h : wpQuiet P ops C Q rest (a.put o.dst v)) : wpQuiet P ops C Q (o :: rest) a := by
  unfold wpQuiet
  rw [if_pos hw]
  refine ⟨v, fun w hC => ?_, h⟩
  unfold Oper.quietAt
  rw [hx w]
  exact ⟨rfl, hc w hC⟩
theorem wpQuiet_skip' {Q : Act → Prop} {a : Act} {o : Oper} {rest : List Oper} (hw : Region.wanted o (yielded ops a.tmps) = false) (h : wpQuiet P ops C Q rest (a.put o.dst undef)) : wpQuiet P ops C Q (o :: rest) a := by
  unfold wpQuiet
  rw [if_neg (by rw [hw]; exact Bool.false_ne_true)]
  exact h
end
theorem range_next {n : Nat} {pre : List (Sn n)} {x : Sn n} (h : (pre ++ [x]).map Subtype.val <+: List.range n) : x.1 = pre.length := by
  rw [List.map_append] at h
  have hl := h.length_le
  obtain ⟨t, ht⟩ := h
  have h1 : ((pre.map Subtype.val ++ [x.1]) ++ t)[pre.length]? = (List.range n)[pre.length]? := by
    have : List.map Subtype.val [x] = [x.1] := rfl
    rw [← this, ht]
  rw [List.append_assoc, List.getElem?_append_right (by simp)] at h1
  simp at h1
  simp at hl
  rw [List.getElem?_range (by omega)] at h1
  simpa using h1
theorem range_next' {n : Nat} {pre : List (Sn n)} {x : Sn n} (h : pre.map Subtype.val <+: List.range n) (hx : x.1 = pre.length) : (pre ++ [x]).map Subtype.val <+: List.range n := by
  obtain ⟨t, ht⟩ := h
  have hp : pre.map Subtype.val = List.range pre.length := by
    have h2 := congrArg (List.take pre.length) ht
    rw [List.take_append_of_le_length (by simp), List.take_of_length_le (by simp)] at h2
    rw [h2, List.take_range]
    congr 1
    have := congrArg List.length ht
    simp at this
    omega
  rw [List.map_append, hp]
  have hx2 := x.2
  have e : List.range pre.length ++ List.map Subtype.val [x] = List.range (pre.length + 1) := by rw [List.range_succ]; simp [hx]
  rw [e]
  exact range_pre (by omega)

/-- What a round of the loop reads. -/
structure SameB (W : World) (p q bd bq bn g gr j : Nat) (RC C : List Value) : Prop where
  n : Row W bn 3 [.int .i64 (j : Nat)]
  bq : Row W bq 28 [.pointer (some ⟨q, 0, none⟩)]
  bd : Row W bd 24 [.pointer (some ⟨p, 0, none⟩)]
  rq : Row W q 45 RC
  rg : ∀ W', SB W W' → W'.rangeAt g 0 C
  rl : ∀ W', SB W W' → W'.rangeAt gr (j * 128) C
  sz : (Tryz.prog.info? 90).map (·.size) = some C.length
  dif : ∀ W, (binOp .neq 90 (.agg C.toArray) (.agg C.toArray)).run Tryz.prog W = .ok (.bool false) W
  last : ∀ W', SB W W' → Calls Tryz.prog 55 #[.pointer (some ⟨p, 0, none⟩), .int .i64 (j : Nat)] W' (fun e w' => e = .returned (.agg C.toArray) ∧ SB W w')
theorem own_pure_s {β : Type} {B : Nat} {φ : β → Prop} : OwnFrom B (fun (s : β) (_ : World) => φ s) := fun s X Y row hs _ _ => hs
theorem fn_not_nil (f : Nat) (b : Array Value) (W : World) : (binOp .eql 95 (.func (.func f) #[] b) .nilFunc).run Tryz.prog W = .ok (.bool false) W := by
  kernel_rfl
section
variable {T : Nat → Prop} {w w' : World} {p q : Nat} {D E D' E' : DS}
set_option maxRecDepth 100000 in
set_option maxHeartbeats 4000000 in
theorem Same_any (hP : Pair T w p q D D.reff) (hs : D.steps < 1000000) (hh : D.hangs.length < 1000000) :
    Calls Tryz.prog 22 #[.pointer (some ⟨p, 0, none⟩), .pointer (some ⟨q, 0, none⟩)] w fun e w' => e = .returned (.bool true) ∧ Below w.heap.size w w' := by
  obtain ⟨ws, hws⟩ : ∃ ws, w.heap.size = ws := ⟨_, rfl⟩
  have HWS := Lib.hid hws
  have HP := Lib.hid hP
  have HH := Lib.hid (And.intro hs hh)
  clear hP hs hh
  refine (callsIn_wide (n := 6)).1 ?_
  refine callsIn_of_wp_marks Tryz.func22 rfl trivial ?_ rfl
  simp only [Tryz.ntmps22, List.size_toArray, List.length_cons, List.length_nil, Nat.reduceAdd, Nat.reduceSub, Array.replicate_succ, Array.replicate_zero, List.push_toArray, List.append_toArray, List.nil_append, List.cons_append]
  rw [wpIn_wide]
  clear hws
  go_wp2_with fail
  refine ((callsIn_wide (n := 0)).1 (All_in 0 (some ⟨p, 0, none⟩) _)).mono ?_
  rintro e w5 ⟨rfl, rfl⟩
  have hnf := fun (b : Array Value) (W : World) => fn_not_nil 94 b W
  go_wp2_with fail
  clear hnf
  obtain ⟨bd, hbd⟩ : ∃ b, w.heap.size = b := ⟨_, rfl⟩
  obtain ⟨bq, hbq⟩ : ∃ b, bd + 1 = b := ⟨_, rfl⟩
  obtain ⟨br, hbr⟩ : ∃ b, bq + 1 = b := ⟨_, rfl⟩
  obtain ⟨bc, hbc⟩ : ∃ b, br + 1 = b := ⟨_, rfl⟩
  obtain ⟨bn, hbn⟩ : ∃ b, bc + 1 = b := ⟨_, rfl⟩
  have c1 := Row.new w 24 [.pointer (some ⟨p, 0, none⟩)]
  have c2 := Row.new (w.alloc (.cells #[.pointer (some ⟨p, 0, none⟩)] 24)) 28 [.pointer (some ⟨q, 0, none⟩)]
  have c3 := Row.new ((w.alloc (.cells #[.pointer (some ⟨p, 0, none⟩)] 24)).alloc (.cells #[.pointer (some ⟨q, 0, none⟩)] 28)) 4 [.bool false]
  have c4 := Row.new (((w.alloc (.cells #[.pointer (some ⟨p, 0, none⟩)] 24)).alloc (.cells #[.pointer (some ⟨q, 0, none⟩)] 28)).alloc (.cells #[.bool false] 4)) 24 [.pointer (some ⟨p, 0, none⟩)]
  have c5 := Row.new ((((w.alloc (.cells #[.pointer (some ⟨p, 0, none⟩)] 24)).alloc (.cells #[.pointer (some ⟨q, 0, none⟩)] 28)).alloc (.cells #[.bool false] 4)).alloc (.cells #[.pointer (some ⟨p, 0, none⟩)] 24)) 3 [.int .i64 0]
  have d1 := (((c1.alloc (.cells #[.pointer (some ⟨q, 0, none⟩)] 28)).alloc (.cells #[.bool false] 4)).alloc (.cells #[.pointer (some ⟨p, 0, none⟩)] 24)).alloc (.cells #[.int .i64 0] 3)
  have d2 := ((c2.alloc (.cells #[.bool false] 4)).alloc (.cells #[.pointer (some ⟨p, 0, none⟩)] 24)).alloc (.cells #[.int .i64 0] 3)
  have d3 := (c3.alloc (.cells #[.pointer (some ⟨p, 0, none⟩)] 24)).alloc (.cells #[.int .i64 0] 3)
  have d4 := c4.alloc (.cells #[.int .i64 0] 3)
  have hB : SB w (((((w.alloc (.cells #[.pointer (some ⟨p, 0, none⟩)] 24)).alloc (.cells #[.pointer (some ⟨q, 0, none⟩)] 28)).alloc (.cells #[.bool false] 4)).alloc (.cells #[.pointer (some ⟨p, 0, none⟩)] 24)).alloc (.cells #[.int .i64 0] 3)) := SB.al (SB.al (SB.al (SB.al (SB.al (SB.here w) _) _) _) _) _
  have hsz : (((((w.alloc (.cells #[.pointer (some ⟨p, 0, none⟩)] 24)).alloc (.cells #[.pointer (some ⟨q, 0, none⟩)] 28)).alloc (.cells #[.bool false] 4)).alloc (.cells #[.pointer (some ⟨p, 0, none⟩)] 24)).alloc (.cells #[.int .i64 0] 3)).heap.size = w.heap.size + 5 := by simp
  simp only [World.size_alloc] at d2 d3 d4 c5
  simp only [hbd, hbq, hbr, hbc, hbn] at d1 d2 d3 d4 c5 hsz ⊢
  generalize ((((w.alloc (.cells #[.pointer (some ⟨p, 0, none⟩)] 24)).alloc (.cells #[.pointer (some ⟨q, 0, none⟩)] 28)).alloc (.cells #[.bool false] 4)).alloc (.cells #[.pointer (some ⟨p, 0, none⟩)] 24)).alloc (.cells #[.int .i64 0] 3) = wm at d1 d2 d3 d4 c5 hB hsz ⊢
  have Pm : Pair (fun k => k = bn) wm p q D D.reff := HP.out.grow hB (fun k hk => .inr ⟨by omega, by omega⟩)
  obtain ⟨S, _, hTS, ⟨gl, gm, hv, Dm, hdm⟩, gr, hvr, hrm⟩ := Pm
  obtain ⟨ha, hc, rfl⟩ := own_slice hrm.han
  obtain ⟨nh, hnh⟩ : ∃ nh, D.hangs.length = nh := ⟨_, rfl⟩
  have hdI : DiskIs (fun k => k = bn) wm p D := DiskIs.less ⟨gl, gm, hv, Dm, hdm⟩ hTS
  have hrA : RefAt (fun k => k = bn) wm q gr (.slice ha D.reff.hangs.length hc) D.reff := hrm.kept (fun _ _ => rfl) (fun g hg hl => hrm.out g hg (.inl hl))
  obtain ⟨row, las⟩ := And.intro hdm.row hdm.las
  have h8 := hdm.good.rows
  have hm := hdm.good.most
  have hm16 := hdm.good.least
  have hpl := hdm.row.lt
  have hgl := hdm.las.lt
  have hpn : p ≠ bn := fun e => hdm.fp (hTS _ e)
  have hgn : gl ≠ bn := fun e => hdm.fl (hTS _ e)
  obtain ⟨LS, hLS⟩ : ∃ LS, D.lasts = LS := ⟨_, rfl⟩
  rw [hLS] at row las h8 hm hm16
  obtain ⟨nl, hnl⟩ : ∃ nl, LS.length = nl := ⟨_, rfl⟩
  obtain ⟨RC, HRC⟩ : ∃ RC, Hid (RC = [Value.slice (some ⟨gr, 0, none⟩) nl nl, .slice ha nh hc, .int .i64 (D.steps : Nat), .int .i64 (max D.fuse (-1)), .bool D.down]) := ⟨_, Lib.hid rfl⟩
  have hrq : Row wm q 45 RC := by
    have h := hrA.row
    rw [HRC.out, ← hnl, ← hLS, ← hnh]
    exact h
  have HD := Lib.hid (And.intro hdI (And.intro hrA (And.intro hrq (And.intro hLS hnl))))
  have HNH := Lib.hid hnh
  have HL := Lib.hid (And.intro h8 (And.intro hm hm16))
  have HC := Lib.hid (And.intro d1 (And.intro d2 (And.intro d3 (And.intro hB c5))))
  have HN := Lib.hid (And.intro hpl (And.intro hgl (And.intro hsz (And.intro hpn (And.intro hgn (And.intro hbd (And.intro hbq (And.intro hbr (And.intro hbc hbn)))))))))
  have hbnlt : bn < wm.heap.size := by omega
  have hbclt : bc < wm.heap.size := by omega
  have hInit : Boxed wm bn 3 (.int .i64 (([] : List (Sn LS.length)).length : Nat)) := c5
  have hrowbc : wm.heap[bc]? = some (.cells #[.pointer (some ⟨p, 0, none⟩)] 24 (0, 0)) := d4
  have HI0 := Lib.hid (And.intro hInit hrowbc)
  clear c1 c2 c3 c4 c5 d1 d2 d3 d4 hB hdm hrm hdI hrA hrq hTS hLS hnh hInit hrowbc hbd hbq hbr hbc hbn
  rw [← wpIn_wide (n := 6)]
  refine' wpIn_rangeFunc_ownH rfl (by omega) (gf := 94) (lb := #[.pointer (some ⟨bc, 0, none⟩)]) rfl trivial (enters_of Tryz.func94 (by kernel_rfl) rfl)
    (All_stops 5 (by omega) bc p gl LS _ h8 hm wm HI0.out.2 row las) keepsA_t (keepsA_b (by omega) (by omega) (by omega)) (Below.refl _ _) (fun _ => rfl)
    (fun pre W => pre.map Subtype.val <+: List.range LS.length ∧ Boxed W bn 3 (.int .i64 (pre.length : Nat)) ∧ Keeps (fun k => k ≠ bn) wm W) (fun _ pre _ => ¬ pre.map Subtype.val <+: List.range LS.length)
    (OwnFrom.and own_pure_s (OwnFrom.and (Own.from (own_box bn 3 (fun pre : List (Sn LS.length) => .int .i64 (pre.length : Nat))) _) (ownFrom_keeps (Nat.le_refl _)))) (fun _ => own_pure_s) ⟨List.nil_prefix, HI0.out.1, Keeps.refl _ _⟩
    (fun x a' W => ∃ g, (a' = { tmps := #[Value.pointer (some ⟨p, 0, none⟩), Value.pointer (some ⟨q, 0, none⟩), Value.pointer (some ⟨bd, 0, none⟩), Value.pointer (some ⟨bq, 0, none⟩), Value.pointer (some ⟨br, 0, none⟩), Value.func (Fn.func 94) #[] #[Value.pointer (some ⟨bc, 0, none⟩)], Value.pointer (some ⟨bn, 0, none⟩), Value.int IntKind.i64 (x.1 : Nat), Value.pointer (some ⟨g, 0, none⟩), undef, undef, undef, undef, Value.pointer (some ⟨p, 0, none⟩), Value.func (Fn.func 94) #[] #[Value.pointer (some ⟨bc, 0, none⟩)], Value.func (Fn.func 94) #[] #[Value.pointer (some ⟨bc, 0, none⟩)], Value.bool false, Value.func (Fn.func 94) #[] #[Value.pointer (some ⟨bc, 0, none⟩)], Value.int IntKind.i64 (x.1 : Nat), Value.agg ((LS.getD x.1 []).map bv).toArray, undef, undef, undef, undef, undef, undef, undef, undef, undef, undef, undef, undef, undef, undef, undef, undef, undef, undef, undef, undef, undef, undef, undef, undef, undef, undef, undef, undef, undef, undef, undef, undef, undef, undef, undef, undef, undef, undef, undef, undef, undef, undef, undef, undef, undef, undef, undef, undef, undef, undef, undef, undef, undef, undef, undef, undef, undef, undef, undef, undef, undef, undef, undef, undef, undef, undef, undef, undef, undef, undef, undef, undef, undef, undef, undef, undef, undef, undef, undef, undef, undef, undef, undef, undef, undef, undef, undef, undef, undef, undef, undef, undef, undef, undef], defers := [] }) ∧ Row W g 90 ((LS.getD x.1 []).map bv))
    (fun x a' => ax_own _) ?hassign ?hbody ?hdone ?hstop
  case hstop =>
    rintro D c pre W _ hpre h _
    exact absurd hpre h
  case hassign =>
    intro l' pre x W K hI hK
    unfold allArgs
    rw [show blkV (LS.getD x.1 []) = Value.agg ((LS.getD x.1 []).map bv).toArray from rfl]
    have hx8 : (LS.getD x.1 []).length = 128 := getD_len HL.out.1 x.2
    obtain ⟨hsb, hrow⟩ := boxed_blk W (LS.getD x.1 [])
    have hnew := Row.new W 90 zB
    have hone := blkV_one (LS.getD x.1 [])
    have hszA := blk_sizeA _ hx8
    have hzl : zB.toArray.size = ((LS.getD x.1 []).map bv).toArray.size := by rw [List.size_toArray, List.size_toArray, List.length_map, hx8, zB_len]
    have hW2 : wm.heap.size ≤ W.heap.size := hI.2.2.size
    have hI2 : (pre.map Subtype.val <+: List.range LS.length ∧ Boxed _ bn 3 (.int .i64 (pre.length : Nat)) ∧ Keeps (fun k => k ≠ bn) wm _) := ⟨hI.1, (hsb.block bn (by omega)).trans hI.2.1, hI.2.2.trans (Keeps.of_below (L := fun k => k ≠ bn) hsb (fun _ h _ => h))⟩
    obtain ⟨cs, hcs⟩ : ∃ cs, ((LS.getD x.1 []).map bv).toArray = cs := ⟨_, rfl⟩
    have HX := Lib.hid (And.intro hsb (And.intro hrow (And.intro hI2 (And.intro hone (And.intro hszA (And.intro hzl hW2))))))
    have HCS := Lib.hid hcs
    have hz := (zero_of_info zB_info).1
    clear hsb hrow hone hszA hzl hI2 hW2
    rw [hcs] at HX ⊢
    clear hcs
    gi_wp2_with (refine wpIn_store_row 90 (.tmp 8) (.tmp 19) rfl W.heap.size cs rfl rfl 90 zB.toArray hnew HX.out.2.2.2.2.1 HX.out.2.2.2.2.2.1 HX.out.2.2.2.1 ?_)
    refine hK _ _ ((below_others HX.out.1).from _) (keepsA_of (L := fun _ => True) (Keeps.of_below HX.out.1 (fun _ h _ => h)) trivial trivial trivial ?_ ?_ ?_) HX.out.2.2.1 ⟨W.heap.size, ?_, HX.out.2.1⟩
    · have := HX.out.2.2.2.2.2.2; omega
    · have := HX.out.2.2.2.2.2.2; omega
    · have := HX.out.2.2.2.2.2.2; omega
    · rw [HCS.out]
  case hbody =>
    rintro l' pre x a' W hl' hrec ⟨hpre, hn, hk⟩ ⟨g, rfl, hrow⟩ hlt
    by_cases hx : x.1 = pre.length
    · have hpre2 : (pre ++ [x]).map Subtype.val <+: List.range LS.length := range_next' hpre hx
      obtain ⟨j, hj⟩ : ∃ j, pre.length = j := ⟨_, rfl⟩
      have hpl2 : (pre ++ [x]).length = j + 1 := by rw [List.length_append, hj]; rfl
      have hjl : j < LS.length := by rw [← hj, ← hx]; exact x.2
      rw [hj] at hn hx
      rw [hx]
      have hx8 : (LS.getD j []).length = 128 := getD_len HL.out.1 hjl
      have hsz := blk_sizeK _ hx8
      have hdif := fun W => blk_differ (LS.getD j []) hx8 W
      unfold blkV at hdif
      have hkW : ∀ W', SB W W' → Keeps (fun k => k ≠ bn) wm W' := fun W' h => hk.trans (Keeps.of_below (L := fun k => k ≠ bn) h (fun _ h _ => h))
      have hdW : ∀ W', Keeps (fun k => k ≠ bn) wm W' → DiskIs (fun k => k = bn) W' p D := fun W' h => HD.out.1.keeps h (fun g _ h2 => h2)
      have hrW : ∀ W', Keeps (fun k => k ≠ bn) wm W' → RefAt (fun k => k = bn) W' q gr (.slice ha D.reff.hangs.length hc) D.reff := fun W' h => HD.out.2.1.kept (fun g hg => h.block g (HD.out.2.1.lt g hg) (HD.out.2.1.out g hg)) HD.out.2.1.out
      have hrow2 := hrow
      rw [hx] at hrow2
      obtain ⟨C, hC⟩ : ∃ C, (LS.getD j []).map bv = C := ⟨_, rfl⟩
      have hlst : ∀ W', SB W W' → Calls Tryz.prog 55 #[.pointer (some ⟨p, 0, none⟩), .int .i64 (j : Nat)] W' (fun e w' => e = .returned (.agg C.toArray) ∧ SB W w') := fun W' h => by
        obtain ⟨gl', gm', hv', Dm', hd'⟩ := hdW W' (hkW W' h)
        refine (Lasts_any hd' j (by rw [HD.out.2.2.2.1]; exact hjl)).mono ?_
        rintro e w' ⟨rfl, hb⟩
        refine ⟨?_, h.next hb⟩
        rw [HD.out.2.2.2.1]
        unfold blkV
        rw [hC]
      rw [hC] at hrow2 hsz hdif
      rw [hC]
      have hne := HN.out
      have hkb : ∀ (b : Nat) (T : TypeId) (l : List Value), b < wm.heap.size → b ≠ bn → Row wm b T l → Row W b T l := fun b T l h1 h2 h3 => (hk.block b h1 h2).trans h3
      have hX : SameB W p q bd bq bn g gr j RC C := ⟨hn, hkb bq _ _ (by omega) (by omega) HC.out.2.1, hkb bd _ _ (by omega) (by omega) HC.out.1, hkb q _ _ HD.out.2.2.1.lt (fun e => HD.out.2.1.fp e) HD.out.2.2.1,
        fun W' h => by
          have h := row_range (h.row hrow2) 0 C.length (by omega)
          rwa [List.drop_zero, List.take_of_length_le (Nat.le_refl _)] at h,
        fun W' h => by
          have h2 := (hrW W' (hkW W' h)).lastRange j (show j < D.lasts.length by rw [HD.out.2.2.2.1]; exact hjl)
          have e : D.reff.lasts = LS := HD.out.2.2.2.1
          rw [e, hC] at h2
          exact h2, hsz, hdif, hlst⟩
      have hjI : (j : Int) < (nl : Int) := by have := HD.out.2.2.2.2; omega
      have hj0 : ¬ (j : Int) < 0 := by omega
      have hjg : ¬ (nl : Int) ≤ (j : Int) := by omega
      have HX := Lib.hid hX
      -- what both read there
      obtain ⟨gl0, gm0, hv0, Dm0, hd0⟩ := HD.out.1
      have hrl := read_len hd0.good (j : Int)
      obtain ⟨RB, hRB⟩ : ∃ RB, (D.read (j : Int)).map bv = RB := ⟨_, rfl⟩
      have hRBl : RB.length = 128 := by rw [← hRB, List.length_map, hrl]
      have hRsz := blk_sizeK _ hrl
      have hRone := blkV_one (D.read (j : Int))
      have hRV : blkV (D.read (j : Int)) = .agg RB.toArray := by unfold blkV; rw [hRB]
      have hEQ := fun W => blk_differ (D.read (j : Int)) hrl W
      rw [hRB] at hRsz hRone
      rw [hRV] at hEQ
      obtain ⟨F, hF⟩ : ∃ F, D.fault (j : Int) = F := ⟨_, rfl⟩
      obtain ⟨Z, hZ⟩ : ∃ Z, zB = Z := ⟨_, rfl⟩
      have hZl : Z.length = 128 := by rw [← hZ]; exact zB_len
      have hz := (zero_of_info zB_info).1
      rw [hZ] at hz
      have HZ := Lib.hid (And.intro hZ (And.intro hZl (And.intro hRBl (And.intro hRsz hRone))))
      have HNEW : Hid (∀ W : World, Row (W.alloc (.cells Z.toArray 90)) W.heap.size 90 Z ∧ SB W ((W.alloc (.cells Z.toArray 90)).setRow W.heap.size RB.toArray) ∧ Row ((W.alloc (.cells Z.toArray 90)).setRow W.heap.size RB.toArray) W.heap.size 90 RB) := Lib.hid fun W =>
        ⟨Row.new W 90 Z, below_setRow (B := W.heap.size) ((Below.refl W.heap.size W).alloc (Nat.le_refl _) _) (Nat.le_refl _) _, (Row.new W 90 Z).put _⟩
      have HLD : Hid (∀ (W : World) (g : Nat), Row W g 90 RB → (Instr.loadAt 90 (.pointer (some ⟨g, 0, none⟩))).run Tryz.prog W = .ok (.agg RB.toArray) W) := Lib.hid fun W g hr => by
        have h := run_loadAt_mid (P := Tryz.prog) W g 0 90 RB _ (fun j v hj => by rw [Nat.zero_add, hr.cell]; exact hj) Tryz.underlying90 rfl HZ.out.2.2.2.1
        exact h
      have HRD : Hid (∀ W', SB W W' → CallsIn (Fence.wide.inRound l') 3 Tryz.prog 56 #[.pointer (some ⟨p, 0, none⟩), .int .i64 (j : Nat)] W' fun e w' => e = .returned (.tuple #[.agg RB.toArray, .int .i64 F]) ∧ SB W w' ∧ SB W' w') := Lib.hid fun W' h => by
        obtain ⟨gl', gm', hv', Dm', hd'⟩ := hdW W' (hkW W' h)
        have h2 := (Read_any hd' (j : Int)).mono (fun e w' h3 => And.intro h3.1 (And.intro (h.next h3.2) h3.2))
        rw [hRV, hF] at h2
        exact CallsIn.inRound l' (callsIn_wide.2 h2)
      have HRR : Hid (∀ W', SB W W' → CallsIn (Fence.wide.inRound l') 3 Tryz.prog 57 #[.pointer (some ⟨q, 0, none⟩), .int .i64 (j : Nat)] W' fun e w' => e = .returned (.tuple #[.agg RB.toArray, .int .i64 F]) ∧ SB W w' ∧ SB W' w') := Lib.hid fun W' h => by
        have h2 := (RRead_any (hrW W' (hkW W' h)) (j : Int) (show D.hangs.length < 1000000000 by have := HH.out.2; omega)).mono (fun e w' h3 => And.intro h3.1 (And.intro (h.next h3.2) h3.2))
        rw [reff_read, reff_fault, hRV, hF] at h2
        exact CallsIn.inRound l' (callsIn_wide.2 h2)
      have HJN := Lib.hid (show j < nl by omega)
      have hnl4 : (nl : Int) ≤ 4096 := by have := HL.out.2.1; have := HD.out.2.2.2.2; omega
      have hWs := Lib.hid (show wm.heap.size ≤ W.heap.size from hk.size)
      have HK := Lib.hid (And.intro hkW (And.intro hpre2 (And.intro hpl2 hjI)))
      clear hk hn hpre hpre2 hpl2 hlt hx hjl hx8 hsz hdif hkW hdW hrW hrow2 hC hlst hkb hX hd0 hrl hRB hRBl hRsz hRone hRV hF hZ hZl hne hrow hj
      gi_wp2
      refine round_quiet_lit (SB W) (by kernel_rfl) (by kernel_rfl) (by kernel_rfl) (below_drewK (Below.refl _ _) 1) ?_
      refine wpQuiet_yields (.int .i64 (j : Nat)) (Or.inl ⟨by rfl, fun W' hS => ?yq1⟩) ?_
      case yq1 =>
        go_simp
      try simp only [Act.put, List.setIfInBounds_toArray, List.set_cons_zero, List.set_cons_succ]
      refine wpQuiet_yields (.int .i64 (j : Nat)) (Or.inl ⟨by rfl, fun W' hS => ?yq2⟩) ?_
      case yq2 =>
        have q0 := (SB.row (l := [.int .i64 (j : Nat)]) hS HX.out.n).cell 0
        simp only [List.getElem?_cons_zero] at q0
        go_simp
      try simp only [Act.put, List.setIfInBounds_toArray, List.set_cons_zero, List.set_cons_succ]
      refine wpQuiet_yields (.bool false) (Or.inl ⟨by rfl, fun W' hS => ?yq3⟩) ?_
      case yq3 =>
        go_simp
      try simp only [Act.put, List.setIfInBounds_toArray, List.set_cons_zero, List.set_cons_succ]
      refine wpQuiet_yields (.bool false) (Or.inl ⟨by rfl, fun W' hS => ?yq4⟩) ?_
      case yq4 =>
        go_simp
      try simp only [Act.put, List.setIfInBounds_toArray, List.set_cons_zero, List.set_cons_succ]
      refine wpQuiet_yields (.int .i64 (j : Nat)) (Or.inl ⟨by rfl, fun W' hS => ?yq5⟩) ?_
      case yq5 =>
        go_simp
      try simp only [Act.put, List.setIfInBounds_toArray, List.set_cons_zero, List.set_cons_succ]
      refine wpQuiet_yields (Value.pointer (some ⟨q, 0, none⟩)) (Or.inl ⟨by rfl, fun W' hS => ?yq6⟩) ?_
      case yq6 =>
        have q0 := (SB.row (l := [Value.pointer (some ⟨q, 0, none⟩)]) hS HX.out.bq).cell 0
        simp only [List.getElem?_cons_zero] at q0
        go_simp
      try simp only [Act.put, List.setIfInBounds_toArray, List.set_cons_zero, List.set_cons_succ]
      refine wpQuiet_yields (Value.pointer (some ⟨q, 0, none⟩)) (Or.inl ⟨by rfl, fun W' hS => ?yq7⟩) ?_
      case yq7 =>
        go_simp
      try simp only [Act.put, List.setIfInBounds_toArray, List.set_cons_zero, List.set_cons_succ]
      refine wpQuiet_yields (Value.pointer (some ⟨q, 0, none⟩)) (Or.inl ⟨by rfl, fun W' hS => ?yq8⟩) ?_
      case yq8 =>
        go_simp
      try simp only [Act.put, List.setIfInBounds_toArray, List.set_cons_zero, List.set_cons_succ]
      refine wpQuiet_yields (.slice (some ⟨gr, 0, none⟩) nl nl) (Or.inl ⟨by rfl, fun W' hS => ?yq9⟩) ?_
      case yq9 =>
        have q0 := (SB.row hS HX.out.rq).cell 0
        simp only [HRC.out, List.getElem?_cons_zero] at q0
        go_simp
      try simp only [Act.put, List.setIfInBounds_toArray, List.set_cons_zero, List.set_cons_succ]
      refine wpQuiet_yields (.int .i64 nl) (Or.inl ⟨by rfl, fun W' hS => ?yq10⟩) ?_
      case yq10 =>
        go_simp
      try simp only [Act.put, List.setIfInBounds_toArray, List.set_cons_zero, List.set_cons_succ]
      refine wpQuiet_yields (.bool false) (Or.inl ⟨by rfl, fun W' hS => ?yq11⟩) ?_
      case yq11 =>
        go_simp
        exact HJN.out
      try simp only [Act.put, List.setIfInBounds_toArray, List.set_cons_zero, List.set_cons_succ]
      refine wpQuiet_yields (.bool false) (Or.inl ⟨by rfl, fun W' hS => ?yq12⟩) ?_
      case yq12 =>
        go_simp
      try simp only [Act.put, List.setIfInBounds_toArray, List.set_cons_zero, List.set_cons_succ]
      refine wpQuiet_yields (.bool false) (Or.inl ⟨by rfl, fun W' hS => ?yq13⟩) ?_
      case yq13 =>
        go_simp
      try simp only [Act.put, List.setIfInBounds_toArray, List.set_cons_zero, List.set_cons_succ]
      refine wpQuiet_yields (.agg C.toArray) (yieldsIf_load_mid (by rfl) 90 (.tmp 8) rfl g 0 rfl C _ (fun W h => HX.out.rg W h) Tryz.underlying90 rfl HX.out.sz) ?_
      try simp only [Act.put, List.setIfInBounds_toArray, List.set_cons_zero, List.set_cons_succ]
      refine wpQuiet_yields (Value.pointer (some ⟨q, 0, none⟩)) (Or.inl ⟨by rfl, fun W' hS => ?yq14⟩) ?_
      case yq14 =>
        have q0 := (SB.row (l := [Value.pointer (some ⟨q, 0, none⟩)]) hS HX.out.bq).cell 0
        simp only [List.getElem?_cons_zero] at q0
        go_simp
      try simp only [Act.put, List.setIfInBounds_toArray, List.set_cons_zero, List.set_cons_succ]
      refine wpQuiet_yields (Value.pointer (some ⟨q, 0, none⟩)) (Or.inl ⟨by rfl, fun W' hS => ?yq15⟩) ?_
      case yq15 =>
        go_simp
      try simp only [Act.put, List.setIfInBounds_toArray, List.set_cons_zero, List.set_cons_succ]
      refine wpQuiet_yields (Value.pointer (some ⟨q, 0, none⟩)) (Or.inl ⟨by rfl, fun W' hS => ?yq16⟩) ?_
      case yq16 =>
        go_simp
      try simp only [Act.put, List.setIfInBounds_toArray, List.set_cons_zero, List.set_cons_succ]
      refine wpQuiet_yields (.slice (some ⟨gr, 0, none⟩) nl nl) (Or.inl ⟨by rfl, fun W' hS => ?yq17⟩) ?_
      case yq17 =>
        have q0 := (SB.row hS HX.out.rq).cell 0
        simp only [HRC.out, List.getElem?_cons_zero] at q0
        go_simp
      try simp only [Act.put, List.setIfInBounds_toArray, List.set_cons_zero, List.set_cons_succ]
      refine wpQuiet_yields (.int .i64 (j : Nat)) (Or.inl ⟨by rfl, fun W' hS => ?yq18⟩) ?_
      case yq18 =>
        go_simp
      try simp only [Act.put, List.setIfInBounds_toArray, List.set_cons_zero, List.set_cons_succ]
      refine wpQuiet_yields (.pointer (some ⟨gr, j * 128, none⟩)) (Or.inl ⟨by rfl, fun W' hS => ?yq19⟩) ?_
      case yq19 =>
        go_simp
      try simp only [Act.put, List.setIfInBounds_toArray, List.set_cons_zero, List.set_cons_succ]
      refine wpQuiet_yields (.agg C.toArray) (yieldsIf_load_mid (by rfl) 90 (.tmp 39) rfl gr (j * 128) rfl C _ (fun W h => HX.out.rl W h) Tryz.underlying90 rfl HX.out.sz) ?_
      try simp only [Act.put, List.setIfInBounds_toArray, List.set_cons_zero, List.set_cons_succ]
      refine wpQuiet_yields (.bool false) (yields_neq (by rfl) _ _ _ _ rfl C.toArray rfl rfl (by kernel_rfl) HX.out.dif) ?_
      try simp only [Act.put, List.setIfInBounds_toArray, List.set_cons_zero, List.set_cons_succ]
      refine wpQuiet_yields (.bool false) (Or.inl ⟨by rfl, fun W' hS => ?yq20⟩) ?_
      case yq20 =>
        go_simp
      try simp only [Act.put, List.setIfInBounds_toArray, List.set_cons_zero, List.set_cons_succ]
      refine wpQuiet_yields (.bool false) (Or.inl ⟨by rfl, fun W' hS => ?yq21⟩) ?_
      case yq21 =>
        go_simp
      try simp only [Act.put, List.setIfInBounds_toArray, List.set_cons_zero, List.set_cons_succ]
      refine wpQuiet_yields (Value.pointer (some ⟨p, 0, none⟩)) (Or.inl ⟨by rfl, fun W' hS => ?yq22⟩) ?_
      case yq22 =>
        have q0 := (SB.row (l := [Value.pointer (some ⟨p, 0, none⟩)]) hS HX.out.bd).cell 0
        simp only [List.getElem?_cons_zero] at q0
        go_simp
      try simp only [Act.put, List.setIfInBounds_toArray, List.set_cons_zero, List.set_cons_succ]
      refine wpQuiet_yields (.int .i64 (j : Nat)) (Or.inl ⟨by rfl, fun W' hS => ?yq23⟩) ?_
      case yq23 =>
        go_simp
      try simp only [Act.put, List.setIfInBounds_toArray, List.set_cons_zero, List.set_cons_succ]
      refine wpQuiet_call (.agg C.toArray) 55 #[Value.pointer (some ⟨p, 0, none⟩), .int .i64 (j : Nat)] (by rfl) (fun W' => ?yq24) (fun W' hS => HX.out.last W' hS) ?_
      case yq24 =>
        go_simp
      try simp only [Act.put, List.setIfInBounds_toArray, List.set_cons_zero, List.set_cons_succ]
      refine wpQuiet_yields (.agg C.toArray) (yieldsIf_load_mid (by rfl) 90 (.tmp 8) rfl g 0 rfl C _ (fun W h => HX.out.rg W h) Tryz.underlying90 rfl HX.out.sz) ?_
      try simp only [Act.put, List.setIfInBounds_toArray, List.set_cons_zero, List.set_cons_succ]
      refine wpQuiet_yields (.bool false) (yields_neq (by rfl) _ _ _ _ rfl C.toArray rfl rfl (by kernel_rfl) HX.out.dif) ?_
      try simp only [Act.put, List.setIfInBounds_toArray, List.set_cons_zero, List.set_cons_succ]
      refine wpQuiet_yields (.bool false) (Or.inl ⟨by rfl, fun W' hS => ?yq25⟩) ?_
      case yq25 =>
        go_simp
      try simp only [Act.put, List.setIfInBounds_toArray, List.set_cons_zero, List.set_cons_succ]
      refine wpQuiet_nil ?_
      intro wf hwf

      have HWF := Lib.hid hwf
      have b3 := (SB.row hwf HX.out.bd).cell 0
      simp only [List.getElem?_cons_zero] at b3
      clear hwf
      gi_wp2_with (first
        | (refine ⟨trivial, ?_⟩; gi_at_call 56; refine (HRD.out _ HWF.out).mono ?_; rintro e w2 ⟨rfl, hb2⟩; have HB2 := Lib.hid hb2; clear hb2)
        | (refine ⟨trivial, ?_⟩; gi_at_call 57; refine (HRR.out _ HN3.out.1).mono ?_; rintro e w4 ⟨rfl, hb4⟩; have HB4 := Lib.hid hb4; clear hb4)
        | (refine wpIn_store_row 90 (.tmp 9) (.tmp 54) rfl w2.heap.size RB.toArray rfl rfl 90 Z.toArray (HNEW.out w2).1 (by rw [List.size_toArray]; exact HZ.out.2.2.2.1) (by rw [List.size_toArray, List.size_toArray, HZ.out.2.1, HZ.out.2.2.1]) HZ.out.2.2.2.2 ?_; have hN := (HNEW.out w2).2; generalize (w2.alloc (.cells Z.toArray 90)).setRow w2.heap.size RB.toArray = w3 at hN ⊢; have HN3 := Lib.hid (And.intro (SB.next HB2.out.1 hN.1) hN.2); have b4 := (SB.row HN3.out.1 HX.out.bq).cell 0; simp only [List.getElem?_cons_zero] at b4; clear hN)
        | (refine wpIn_store_row 90 (.tmp 11) (.tmp 60) rfl w4.heap.size RB.toArray rfl rfl 90 Z.toArray (HNEW.out w4).1 (by rw [List.size_toArray]; exact HZ.out.2.2.2.1) (by rw [List.size_toArray, List.size_toArray, HZ.out.2.1, HZ.out.2.2.1]) HZ.out.2.2.2.2 ?_; have hN := (HNEW.out w4).2; generalize (w4.alloc (.cells Z.toArray 90)).setRow w4.heap.size RB.toArray = w5 at hN ⊢; have HN5 := Lib.hid (And.intro (SB.next HB4.out.1 hN.1) (And.intro hN.2 (SB.row (SB.next HB4.out.2 hN.1) HN3.out.2))); have b5 := (SB.row HN5.out.1 HX.out.n).cell 0; have f5 := (SB.row HN5.out.1 HX.out.n).frozen 0; simp only [List.getElem?_cons_zero] at b5; clear hN)
        | (refine wpIn_load_eq (g := w2.heap.size) rfl rfl (HLD.out _ _ HN5.out.2.2) ?_)
        | (refine wpIn_load_eq (g := w4.heap.size) rfl rfl (HLD.out _ _ HN5.out.2.1) ?_)
        | fail)
      have hne := HN.out
      have hk5 := HK.out.1 _ HN5.out.1
      have hsz5 := hk5.size
      have e1 : (((pre ++ [x]).length : Nat) : Int) = (j : Int) + 1 := by rw [HK.out.2.2.1]; omega
      have hbx : Boxed w5 bn 3 (.int .i64 (j : Nat)) := SB.row HN5.out.1 HX.out.n
      have hWW : wm.heap.size ≤ W.heap.size := hWs.out
      have hkA : Keeps (fun k => k ≠ bn) W (w5.setCell ⟨bn, 0, none⟩ (.int .i64 ((j : Int) + 1))) := (Keeps.of_below (L := fun k => k ≠ bn) HN5.out.1 (fun _ h _ => h)).setCell (p := ⟨bn, 0, none⟩) (.inl (fun h => h rfl)) _
      refine ⟨((below_others HN5.out.1).trans (KeepsOthers.setCell _ _ _)).from _, keepsA_of (L := fun k => k ≠ bn) hkA (by omega) (by omega) (by omega) (by omega) (by omega) (by omega), HK.out.2.1, ?_, hk5.setCell (p := ⟨bn, 0, none⟩) (.inl (fun h => h rfl)) _⟩
      rw [e1]
      exact hbx.set _
    · have hnp : ¬ (pre ++ [x]).map Subtype.val <+: List.range LS.length := fun h => hx (range_next h)
      have HNP := Lib.hid hnp
      obtain ⟨j, hj⟩ : ∃ j, pre.length = j := ⟨_, rfl⟩
      obtain ⟨i, hi⟩ : ∃ i, x.1 = i := ⟨_, rfl⟩
      rw [hj] at hn hx
      rw [hi] at hx ⊢
      have hne : ((i : Int) != (j : Int)) = true := by rw [bne_iff_ne]; omega
      have hne3 : ((i : Int) == (j : Int)) = false := by rw [beq_eq_false_iff_ne]; omega
      have hbr : Row W br 4 [.bool false] := (hk.block br (by have := HN.out; omega) (by have := HN.out; show br ≠ bn; omega)).trans HC.out.2.2.1
      have HX := Lib.hid (And.intro (show Row W bn 3 [.int .i64 (j : Nat)] from hn) hbr)
      clear hnp hn hbr hj hi hk hpre hx hrow
      gi_wp2
      refine round_quiet_lit (SB W) (by kernel_rfl) (by kernel_rfl) (by kernel_rfl) (below_drewK (Below.refl _ _) 1) ?_
      refine wpQuiet_yields (.int .i64 (i : Nat)) (Or.inl ⟨by rfl, fun W' hS => ?yq1⟩) ?_
      case yq1 =>
        go_simp
      try simp only [Act.put, List.setIfInBounds_toArray, List.set_cons_zero, List.set_cons_succ]
      refine wpQuiet_yields (.int .i64 (j : Nat)) (Or.inl ⟨by rfl, fun W' hS => ?yq2⟩) ?_
      case yq2 =>
        have q0 := (SB.row (l := [.int .i64 (j : Nat)]) hS HX.out.1).cell 0
        simp only [List.getElem?_cons_zero] at q0
        go_simp
      try simp only [Act.put, List.setIfInBounds_toArray, List.set_cons_zero, List.set_cons_succ]
      refine wpQuiet_yields (.bool true) (Or.inl ⟨by rfl, fun W' hS => ?yq3⟩) ?_
      case yq3 =>
        go_simp
      try simp only [Act.put, List.setIfInBounds_toArray, List.set_cons_zero, List.set_cons_succ]
      refine wpQuiet_yields (.bool true) (Or.inl ⟨by rfl, fun W' hS => ?yq4⟩) ?_
      case yq4 =>
        go_simp
      try simp only [Act.put, List.setIfInBounds_toArray, List.set_cons_zero, List.set_cons_succ]
      go_big_quiet_skip
      go_big_quiet_skip
      go_big_quiet_skip
      go_big_quiet_skip
      go_big_quiet_skip
      go_big_quiet_skip
      go_big_quiet_skip
      refine wpQuiet_yields (.bool true) (Or.inl ⟨by rfl, fun W' hS => ?yq5⟩) ?_
      case yq5 =>
        go_simp
      try simp only [Act.put, List.setIfInBounds_toArray, List.set_cons_zero, List.set_cons_succ]
      refine wpQuiet_yields (.bool true) (Or.inl ⟨by rfl, fun W' hS => ?yq6⟩) ?_
      case yq6 =>
        go_simp
      try simp only [Act.put, List.setIfInBounds_toArray, List.set_cons_zero, List.set_cons_succ]
      go_big_quiet_skip
      go_big_quiet_skip
      go_big_quiet_skip
      go_big_quiet_skip
      go_big_quiet_skip
      go_big_quiet_skip
      go_big_quiet_skip
      go_big_quiet_skip
      go_big_quiet_skip
      refine wpQuiet_yields (.bool true) (Or.inl ⟨by rfl, fun W' hS => ?yq7⟩) ?_
      case yq7 =>
        go_simp
      try simp only [Act.put, List.setIfInBounds_toArray, List.set_cons_zero, List.set_cons_succ]
      refine wpQuiet_yields (.bool true) (Or.inl ⟨by rfl, fun W' hS => ?yq8⟩) ?_
      case yq8 =>
        go_simp
      try simp only [Act.put, List.setIfInBounds_toArray, List.set_cons_zero, List.set_cons_succ]
      go_big_quiet_skip
      go_big_quiet_skip
      go_big_quiet_skip
      go_big_quiet_skip
      go_big_quiet_skip
      refine wpQuiet_yields (.bool true) (Or.inl ⟨by rfl, fun W' hS => ?yq9⟩) ?_
      case yq9 =>
        go_simp
      try simp only [Act.put, List.setIfInBounds_toArray, List.set_cons_zero, List.set_cons_succ]
      refine wpQuiet_nil ?_
      intro wf hwf

      have r0 := (SB.row hwf HX.out.2).cell 0
      have f0 := (SB.row hwf HX.out.2).frozen 0
      simp only [List.getElem?_cons_zero] at r0
      gi_wp2
      exact ⟨((below_others hwf).trans (KeepsOthers.setCell _ _ _)).from _, HNP.out⟩
  case hdone =>
    rintro D' xs W' hD' hS ⟨_, hn, hk⟩ hK'
    have hxl : xs.length = LS.length := by have h := congrArg List.length hS; simpa using h
    rw [hxl, HD.out.2.2.2.2] at hn
    have hne := HN.out
    have hkb : ∀ (b : Nat) (T : TypeId) (l : List Value), b < wm.heap.size → b ≠ bn → Row wm b T l → Row W' b T l := fun b T l h1 h2 h3 => (hk.block b h1 h2).trans h3
    have x1 : Row W' bn 3 [.int .i64 nl] := hn
    have x2 := hkb bd _ _ (by omega) (by omega) HC.out.1
    have x3 := hkb bq _ _ (by omega) (by omega) HC.out.2.1
    have x4 := hkb q _ _ HD.out.2.2.1.lt (fun e => HD.out.2.1.fp e) HD.out.2.2.1
    have x5 := hkb br _ _ (by omega) (by omega) HC.out.2.2.1
    have hdW : DiskIs (fun k => k = bn) W' p D := HD.out.1.keeps hk (fun g _ h2 => h2)
    have hdD : DiskIs (fun k => k = bn) W'.drew p D := hdW.below (below_drewK (Below.refl _ _) 1)
    have hB6 : SB w W' := HC.out.2.2.2.1.trans (hk.below (B := w.heap.size) (HC.out.2.2.2.1.size) (fun k h => by omega))
    have HS0 : Hid (Row W'.drew bn 3 [.int .i64 nl] ∧ Row W'.drew bd 24 [.pointer (some ⟨p, 0, none⟩)] ∧ Row W'.drew bq 28 [.pointer (some ⟨q, 0, none⟩)] ∧ Row W'.drew q 45 RC) := Lib.hid ⟨x1.drew, x2.drew, x3.drew, x4.drew⟩
    have hnr : bn ≠ br ∧ bd ≠ br ∧ bq ≠ br := by omega
    have hqr : q ≠ br := fun e => by
      have h1 := HD.out.2.2.1
      have h2 := HC.out.2.2.1
      unfold Row at h1 h2
      rw [e, h2] at h1
      injection h1 with h1
      injection h1 with _ h3
      revert h3
      decide
    have HS6 : Hid (Row (W'.drew.setCell ⟨br, 0, none⟩ (.bool true)) bn 3 [.int .i64 nl] ∧ Row (W'.drew.setCell ⟨br, 0, none⟩ (.bool true)) bd 24 [.pointer (some ⟨p, 0, none⟩)] ∧ Row (W'.drew.setCell ⟨br, 0, none⟩ (.bool true)) bq 28 [.pointer (some ⟨q, 0, none⟩)] ∧ Row (W'.drew.setCell ⟨br, 0, none⟩ (.bool true)) q 45 RC) := Lib.hid ⟨x1.drew.far hnr.1 _, x2.drew.far hnr.2.1 _, x3.drew.far hnr.2.2 _, x4.drew.far hqr _⟩
    have HR5 := Lib.hid (And.intro x5 (And.intro hK' (And.intro hB6 hD')))
    have HSE : Hid (Calls Tryz.prog 58 #[.pointer (some ⟨p, 0, none⟩)] W'.drew fun e w' => e = .returned (.int .i64 nl) ∧ W'.drew = w') := Lib.hid (by
      obtain ⟨gl', gm', hv', Dm', hd'⟩ := hdD
      have h := Sectors_any hd'
      rw [HD.out.2.2.2.1, HD.out.2.2.2.2] at h
      exact h)
    have HDO : Hid (Calls Tryz.prog 59 #[.pointer (some ⟨p, 0, none⟩)] W'.drew fun e w' => e = .returned (.bool D.down) ∧ W'.drew = w') := Lib.hid (by
      obtain ⟨gl', gm', hv', Dm', hd'⟩ := hdD
      exact Down_any hd')
    have HST : Hid (Calls Tryz.prog 24 #[.pointer (some ⟨p, 0, none⟩)] W'.drew fun e w' => e = .returned (.int .i64 (D.steps : Nat)) ∧ W'.drew = w') := Lib.hid (by
      obtain ⟨gl', gm', hv', Dm', hd'⟩ := hdD
      exact Steps_any hd')
    have HHA : Hid (Calls Tryz.prog 60 #[.pointer (some ⟨p, 0, none⟩)] W'.drew fun e w' => e = .returned (.int .i64 (128 * (nh : Int))) ∧ W'.drew = w') := Lib.hid (by
      obtain ⟨gl', gm', hv', Dm', hd'⟩ := hdD
      have h := Hangs_any hd' (by have := HH.out.2; omega)
      rw [HNH.out, Int.mul_comm] at h
      exact h)
    have hnh6 : (nh : Int) < 1000000 := by have := HH.out.2; have := HNH.out; omega
    obtain ⟨sp, hsp⟩ : ∃ sp, D.steps = sp := ⟨_, rfl⟩
    obtain ⟨dn, hdn⟩ : ∃ dn, D.down = dn := ⟨_, rfl⟩
    rw [hsp] at HST HRC
    rw [hdn] at HDO HRC
    clear hn hk hS hxl hne hkb hnr hqr x1 x2 x3 x4 x5 hdW hdD hB6 hsp hdn hD' hK'
    go_wp2_with fail
    refine wp_region_noPanic ?_
    refine wp_region_held_drew (S := fun W => Row W bn 3 [.int .i64 nl] ∧ Row W bd 24 [.pointer (some ⟨p, 0, none⟩)] ∧ Row W bq 28 [.pointer (some ⟨q, 0, none⟩)] ∧ Row W q 45 RC) (by kernel_rfl) HS0.out (fun hHeld => ?_)
    refine wpAnyH_take (i := 0) (oi := { dst := some 72, op := Op.load 3 (Operand.tmp 6), type := 3, pos := "law.go:79", after := #[], guard := none }) (v := ?vve_0) rfl (by kernel_rfl) (by kernel_rfl) (by kernel_rfl) (fun _ _ _ h => h) (Or.inl ⟨by rfl, ?yye_0⟩) hHeld ?_
    case vve_0 => exact .int .i64 nl
    case yye_0 =>
      intro W hS
      have q0 := Row.cell hS.1 0
      simp only [List.getElem?_cons_zero] at q0
      go_simp
    try simp only [Act.put, List.setIfInBounds_toArray, List.set_cons_zero, List.set_cons_succ]
    refine wpAnyH_take (i := 1) (oi := { dst := some 73, op := Op.load 28 (Operand.tmp 3), type := 28, pos := "law.go:79", after := #[], guard := none }) (v := ?vve_1) rfl (by kernel_rfl) (by kernel_rfl) (by kernel_rfl) (fun _ _ _ h => h) (Or.inl ⟨by rfl, ?yye_1⟩) hHeld ?_
    case vve_1 => exact Value.pointer (some ⟨q, 0, none⟩)
    case yye_1 =>
      intro W hS
      have q0 := Row.cell hS.2.2.1 0
      simp only [List.getElem?_cons_zero] at q0
      go_simp
    try simp only [Act.put, List.setIfInBounds_toArray, List.set_cons_zero, List.set_cons_succ]
    refine wpAnyH_take (i := 2) (oi := { dst := some 74, op := Op.nilCheck (Operand.tmp 73), type := 0, pos := "law.go:79", after := #[{ on := 1, ground := Ground.data }], guard := none }) (v := ?vve_2) rfl (by kernel_rfl) (by kernel_rfl) (by kernel_rfl) (fun _ _ _ h => h) (Or.inl ⟨by rfl, ?yye_2⟩) hHeld ?_
    case vve_2 => exact Value.pointer (some ⟨q, 0, none⟩)
    case yye_2 =>
      intro W hS
      go_simp
    try simp only [Act.put, List.setIfInBounds_toArray, List.set_cons_zero, List.set_cons_succ]
    refine wpAnyH_take (i := 3) (oi := { dst := some 75, op := Op.fieldAddr 45 (Operand.tmp 74) 0, type := 0, pos := "law.go:79", after := #[{ on := 2, ground := Ground.data }], guard := none }) (v := ?vve_3) rfl (by kernel_rfl) (by kernel_rfl) (by kernel_rfl) (fun _ _ _ h => h) (Or.inl ⟨by rfl, ?yye_3⟩) hHeld ?_
    case vve_3 => exact .pointer (some ⟨q, 0, none⟩)
    case yye_3 =>
      intro W hS
      go_simp
    try simp only [Act.put, List.setIfInBounds_toArray, List.set_cons_zero, List.set_cons_succ]
    refine wpAnyH_take (i := 4) (oi := { dst := some 76, op := Op.load 42 (Operand.tmp 75), type := 42, pos := "law.go:79", after := #[{ on := 3, ground := Ground.data }], guard := none }) (v := ?vve_4) rfl (by kernel_rfl) (by kernel_rfl) (by kernel_rfl) (fun _ _ _ h => h) (Or.inl ⟨by rfl, ?yye_4⟩) hHeld ?_
    case vve_4 => exact .slice (some ⟨gr, 0, none⟩) nl nl
    case yye_4 =>
      intro W hS
      have q0 := Row.cell hS.2.2.2 0
      simp only [HRC.out, List.getElem?_cons_zero, List.getElem?_cons_succ] at q0
      go_simp
    try simp only [Act.put, List.setIfInBounds_toArray, List.set_cons_zero, List.set_cons_succ]
    refine wpAnyH_take (i := 5) (oi := { dst := some 77, op := Op.call { callee := Callee.builtin Builtin.len, args := #[Operand.tmp 76], argTypes := #[42] }, type := 3, pos := "law.go:79", after := #[{ on := 4, ground := Ground.data }], guard := none }) (v := ?vve_5) rfl (by kernel_rfl) (by kernel_rfl) (by kernel_rfl) (fun _ _ _ h => h) (Or.inl ⟨by rfl, ?yye_5⟩) hHeld ?_
    case vve_5 => exact .int .i64 nl
    case yye_5 =>
      intro W hS
      go_simp
    try simp only [Act.put, List.setIfInBounds_toArray, List.set_cons_zero, List.set_cons_succ]
    refine wpAnyH_take (i := 6) (oi := { dst := some 78, op := Op.binOp BinOp.eql 3 (Operand.tmp 72) (Operand.tmp 77) 3, type := 4, pos := "law.go:79", after := #[{ on := 0, ground := Ground.data }, { on := 5, ground := Ground.data }], guard := none }) (v := ?vve_6) rfl (by kernel_rfl) (by kernel_rfl) (by kernel_rfl) (fun _ _ _ h => h) (Or.inl ⟨by rfl, ?yye_6⟩) hHeld ?_
    case vve_6 => exact .bool true
    case yye_6 =>
      intro W hS
      go_simp
    try simp only [Act.put, List.setIfInBounds_toArray, List.set_cons_zero, List.set_cons_succ]
    refine wpAnyH_take (i := 7) (oi := { dst := some 79, op := Op.move (Operand.tmp 78), type := 4, pos := "law.go:79", after := #[{ on := 6, ground := Ground.data }], guard := none }) (v := ?vve_7) rfl (by kernel_rfl) (by kernel_rfl) (by kernel_rfl) (fun _ _ _ h => h) (Or.inl ⟨by rfl, ?yye_7⟩) hHeld ?_
    case vve_7 => exact .bool true
    case yye_7 =>
      intro W hS
      go_simp
    try simp only [Act.put, List.setIfInBounds_toArray, List.set_cons_zero, List.set_cons_succ]
    refine wpAnyH_take (i := 8) (oi := { dst := some 80, op := Op.load 24 (Operand.tmp 2), type := 24, pos := "law.go:79", after := #[{ on := 7, ground := Ground.guard }], guard := some (7, true) }) (v := ?vve_8) rfl (by kernel_rfl) (by kernel_rfl) (by kernel_rfl) (fun _ _ _ h => h) (Or.inl ⟨by rfl, ?yye_8⟩) hHeld ?_
    case vve_8 => exact Value.pointer (some ⟨p, 0, none⟩)
    case yye_8 =>
      intro W hS
      have q0 := Row.cell hS.2.1 0
      simp only [List.getElem?_cons_zero] at q0
      go_simp
    try simp only [Act.put, List.setIfInBounds_toArray, List.set_cons_zero, List.set_cons_succ]
    refine wpAnyH_take (i := 10) (oi := { dst := some 82, op := Op.load 3 (Operand.tmp 6), type := 3, pos := "law.go:79", after := #[{ on := 7, ground := Ground.guard }], guard := some (7, true) }) (v := ?vve_10) rfl (by kernel_rfl) (by kernel_rfl) (by kernel_rfl) (fun _ _ _ h => h) (Or.inl ⟨by rfl, ?yye_10⟩) hHeld ?_
    case vve_10 => exact .int .i64 nl
    case yye_10 =>
      intro W hS
      have q0 := Row.cell hS.1 0
      simp only [List.getElem?_cons_zero] at q0
      go_simp
    try simp only [Act.put, List.setIfInBounds_toArray, List.set_cons_zero, List.set_cons_succ]
    refine wpAnyH_ready (rs := [9]) (by kernel_rfl) (by simp) (AllReadyH.cons (o := { dst := some 81, op := Op.call { callee := Callee.value (Operand.func 58), args := #[Operand.tmp 80], argTypes := #[24] }, type := 3, pos := "law.go:79", after := #[{ on := 8, ground := Ground.data }, { on := 7, ground := Ground.chain }, { on := 7, ground := Ground.guard }], guard := some (7, true) }) rfl (fun K hK => ?_) AllReadyH.nil)
    go_simp
    go_at_call 58
    refine HSE.out.mono ?_
    rintro e w1 ⟨rfl, rfl⟩
    refine hK.out _ _ HS0.out (fun hHeld => ?_)
    clear hK K
    try simp only [Act.put, List.setIfInBounds_toArray, List.set_cons_zero, List.set_cons_succ]
    refine wpAnyH_take (i := 11) (oi := { dst := some 83, op := Op.binOp BinOp.eql 3 (Operand.tmp 81) (Operand.tmp 82) 3, type := 4, pos := "law.go:79", after := #[{ on := 9, ground := Ground.data }, { on := 10, ground := Ground.data }, { on := 7, ground := Ground.guard }], guard := some (7, true) }) (v := ?vve_11) rfl (by kernel_rfl) (by kernel_rfl) (by kernel_rfl) (fun _ _ _ h => h) (Or.inl ⟨by rfl, ?yye_11⟩) hHeld ?_
    case vve_11 => exact .bool true
    case yye_11 =>
      intro W hS
      go_simp
    try simp only [Act.put, List.setIfInBounds_toArray, List.set_cons_zero, List.set_cons_succ]
    refine wpAnyH_take (i := 12) (oi := { dst := some 84, op := Op.pick (Operand.tmp 79) (Operand.tmp 83) (Operand.const (Value.bool false)), type := 4, pos := "law.go:79", after := #[{ on := 7, ground := Ground.data }, { on := 11, ground := Ground.data }], guard := none }) (v := ?vve_12) rfl (by kernel_rfl) (by kernel_rfl) (by kernel_rfl) (fun _ _ _ h => h) (Or.inl ⟨by rfl, ?yye_12⟩) hHeld ?_
    case vve_12 => exact .bool true
    case yye_12 =>
      intro W hS
      go_simp
    try simp only [Act.put, List.setIfInBounds_toArray, List.set_cons_zero, List.set_cons_succ]
    refine wpAnyH_take (i := 13) (oi := { dst := some 85, op := Op.move (Operand.tmp 84), type := 4, pos := "law.go:79", after := #[{ on := 12, ground := Ground.data }, { on := 9, ground := Ground.chain }], guard := none }) (v := ?vve_13) rfl (by kernel_rfl) (by kernel_rfl) (by kernel_rfl) (fun _ _ _ h => h) (Or.inl ⟨by rfl, ?yye_13⟩) hHeld ?_
    case vve_13 => exact .bool true
    case yye_13 =>
      intro W hS
      go_simp
    try simp only [Act.put, List.setIfInBounds_toArray, List.set_cons_zero, List.set_cons_succ]
    refine wpAnyH_take (i := 14) (oi := { dst := some 86, op := Op.load 24 (Operand.tmp 2), type := 24, pos := "law.go:79", after := #[{ on := 13, ground := Ground.guard }], guard := some (13, true) }) (v := ?vve_14) rfl (by kernel_rfl) (by kernel_rfl) (by kernel_rfl) (fun _ _ _ h => h) (Or.inl ⟨by rfl, ?yye_14⟩) hHeld ?_
    case vve_14 => exact Value.pointer (some ⟨p, 0, none⟩)
    case yye_14 =>
      intro W hS
      have q0 := Row.cell hS.2.1 0
      simp only [List.getElem?_cons_zero] at q0
      go_simp
    try simp only [Act.put, List.setIfInBounds_toArray, List.set_cons_zero, List.set_cons_succ]
    refine wpAnyH_take (i := 16) (oi := { dst := some 88, op := Op.load 28 (Operand.tmp 3), type := 28, pos := "law.go:79", after := #[{ on := 13, ground := Ground.guard }], guard := some (13, true) }) (v := ?vve_16) rfl (by kernel_rfl) (by kernel_rfl) (by kernel_rfl) (fun _ _ _ h => h) (Or.inl ⟨by rfl, ?yye_16⟩) hHeld ?_
    case vve_16 => exact Value.pointer (some ⟨q, 0, none⟩)
    case yye_16 =>
      intro W hS
      have q0 := Row.cell hS.2.2.1 0
      simp only [List.getElem?_cons_zero] at q0
      go_simp
    try simp only [Act.put, List.setIfInBounds_toArray, List.set_cons_zero, List.set_cons_succ]
    refine wpAnyH_take (i := 17) (oi := { dst := some 89, op := Op.nilCheck (Operand.tmp 88), type := 0, pos := "law.go:79", after := #[{ on := 16, ground := Ground.data }, { on := 13, ground := Ground.guard }], guard := some (13, true) }) (v := ?vve_17) rfl (by kernel_rfl) (by kernel_rfl) (by kernel_rfl) (fun _ _ _ h => h) (Or.inl ⟨by rfl, ?yye_17⟩) hHeld ?_
    case vve_17 => exact Value.pointer (some ⟨q, 0, none⟩)
    case yye_17 =>
      intro W hS
      go_simp
    try simp only [Act.put, List.setIfInBounds_toArray, List.set_cons_zero, List.set_cons_succ]
    refine wpAnyH_take (i := 18) (oi := { dst := some 90, op := Op.fieldAddr 45 (Operand.tmp 89) 4, type := 0, pos := "law.go:79", after := #[{ on := 17, ground := Ground.data }, { on := 13, ground := Ground.guard }], guard := some (13, true) }) (v := ?vve_18) rfl (by kernel_rfl) (by kernel_rfl) (by kernel_rfl) (fun _ _ _ h => h) (Or.inl ⟨by rfl, ?yye_18⟩) hHeld ?_
    case vve_18 => exact .pointer (some ⟨q, 4, none⟩)
    case yye_18 =>
      intro W hS
      go_simp
    try simp only [Act.put, List.setIfInBounds_toArray, List.set_cons_zero, List.set_cons_succ]
    refine wpAnyH_take (i := 19) (oi := { dst := some 91, op := Op.load 4 (Operand.tmp 90), type := 4, pos := "law.go:79", after := #[{ on := 18, ground := Ground.data }, { on := 13, ground := Ground.guard }], guard := some (13, true) }) (v := ?vve_19) rfl (by kernel_rfl) (by kernel_rfl) (by kernel_rfl) (fun _ _ _ h => h) (Or.inl ⟨by rfl, ?yye_19⟩) hHeld ?_
    case vve_19 => exact .bool dn
    case yye_19 =>
      intro W hS
      have q0 := Row.cell hS.2.2.2 4
      simp only [HRC.out, List.getElem?_cons_zero, List.getElem?_cons_succ] at q0
      go_simp
    try simp only [Act.put, List.setIfInBounds_toArray, List.set_cons_zero, List.set_cons_succ]
    refine wpAnyH_ready (rs := [15]) (by kernel_rfl) (by simp) (AllReadyH.cons (o := { dst := some 87, op := Op.call { callee := Callee.value (Operand.func 59), args := #[Operand.tmp 86], argTypes := #[24] }, type := 4, pos := "law.go:79", after := #[{ on := 14, ground := Ground.data }, { on := 13, ground := Ground.chain }, { on := 13, ground := Ground.guard }], guard := some (13, true) }) rfl (fun K hK => ?_) AllReadyH.nil)
    go_simp
    go_at_call 59
    refine HDO.out.mono ?_
    rintro e w1 ⟨rfl, rfl⟩
    refine hK.out _ _ HS0.out (fun hHeld => ?_)
    clear hK K
    try simp only [Act.put, List.setIfInBounds_toArray, List.set_cons_zero, List.set_cons_succ]
    refine wpAnyH_take (i := 20) (oi := { dst := some 92, op := Op.binOp BinOp.eql 4 (Operand.tmp 87) (Operand.tmp 91) 4, type := 4, pos := "law.go:79", after := #[{ on := 15, ground := Ground.data }, { on := 19, ground := Ground.data }, { on := 13, ground := Ground.guard }], guard := some (13, true) }) (v := ?vve_20) rfl (by kernel_rfl) (by kernel_rfl) (by kernel_rfl) (fun _ _ _ h => h) (Or.inl ⟨by rfl, ?yye_20⟩) hHeld ?_
    case vve_20 => exact .bool true
    case yye_20 =>
      intro W hS
      go_simp
    try simp only [Act.put, List.setIfInBounds_toArray, List.set_cons_zero, List.set_cons_succ]
    refine wpAnyH_take (i := 21) (oi := { dst := some 93, op := Op.pick (Operand.tmp 85) (Operand.tmp 92) (Operand.const (Value.bool false)), type := 4, pos := "law.go:79", after := #[{ on := 13, ground := Ground.data }, { on := 20, ground := Ground.data }], guard := none }) (v := ?vve_21) rfl (by kernel_rfl) (by kernel_rfl) (by kernel_rfl) (fun _ _ _ h => h) (Or.inl ⟨by rfl, ?yye_21⟩) hHeld ?_
    case vve_21 => exact .bool true
    case yye_21 =>
      intro W hS
      go_simp
    try simp only [Act.put, List.setIfInBounds_toArray, List.set_cons_zero, List.set_cons_succ]
    refine wpAnyH_take (i := 22) (oi := { dst := some 94, op := Op.move (Operand.tmp 93), type := 4, pos := "law.go:79", after := #[{ on := 21, ground := Ground.data }, { on := 15, ground := Ground.chain }], guard := none }) (v := ?vve_22) rfl (by kernel_rfl) (by kernel_rfl) (by kernel_rfl) (fun _ _ _ h => h) (Or.inl ⟨by rfl, ?yye_22⟩) hHeld ?_
    case vve_22 => exact .bool true
    case yye_22 =>
      intro W hS
      go_simp
    try simp only [Act.put, List.setIfInBounds_toArray, List.set_cons_zero, List.set_cons_succ]
    refine wpAnyH_take (i := 23) (oi := { dst := some 95, op := Op.load 24 (Operand.tmp 2), type := 24, pos := "law.go:79", after := #[{ on := 22, ground := Ground.guard }], guard := some (22, true) }) (v := ?vve_23) rfl (by kernel_rfl) (by kernel_rfl) (by kernel_rfl) (fun _ _ _ h => h) (Or.inl ⟨by rfl, ?yye_23⟩) hHeld ?_
    case vve_23 => exact Value.pointer (some ⟨p, 0, none⟩)
    case yye_23 =>
      intro W hS
      have q0 := Row.cell hS.2.1 0
      simp only [List.getElem?_cons_zero] at q0
      go_simp
    try simp only [Act.put, List.setIfInBounds_toArray, List.set_cons_zero, List.set_cons_succ]
    refine wpAnyH_take (i := 25) (oi := { dst := some 97, op := Op.load 28 (Operand.tmp 3), type := 28, pos := "law.go:79", after := #[{ on := 22, ground := Ground.guard }], guard := some (22, true) }) (v := ?vve_25) rfl (by kernel_rfl) (by kernel_rfl) (by kernel_rfl) (fun _ _ _ h => h) (Or.inl ⟨by rfl, ?yye_25⟩) hHeld ?_
    case vve_25 => exact Value.pointer (some ⟨q, 0, none⟩)
    case yye_25 =>
      intro W hS
      have q0 := Row.cell hS.2.2.1 0
      simp only [List.getElem?_cons_zero] at q0
      go_simp
    try simp only [Act.put, List.setIfInBounds_toArray, List.set_cons_zero, List.set_cons_succ]
    refine wpAnyH_take (i := 26) (oi := { dst := some 98, op := Op.nilCheck (Operand.tmp 97), type := 0, pos := "law.go:79", after := #[{ on := 25, ground := Ground.data }, { on := 22, ground := Ground.guard }], guard := some (22, true) }) (v := ?vve_26) rfl (by kernel_rfl) (by kernel_rfl) (by kernel_rfl) (fun _ _ _ h => h) (Or.inl ⟨by rfl, ?yye_26⟩) hHeld ?_
    case vve_26 => exact Value.pointer (some ⟨q, 0, none⟩)
    case yye_26 =>
      intro W hS
      go_simp
    try simp only [Act.put, List.setIfInBounds_toArray, List.set_cons_zero, List.set_cons_succ]
    refine wpAnyH_take (i := 27) (oi := { dst := some 99, op := Op.fieldAddr 45 (Operand.tmp 98) 2, type := 0, pos := "law.go:79", after := #[{ on := 26, ground := Ground.data }, { on := 22, ground := Ground.guard }], guard := some (22, true) }) (v := ?vve_27) rfl (by kernel_rfl) (by kernel_rfl) (by kernel_rfl) (fun _ _ _ h => h) (Or.inl ⟨by rfl, ?yye_27⟩) hHeld ?_
    case vve_27 => exact .pointer (some ⟨q, 2, none⟩)
    case yye_27 =>
      intro W hS
      go_simp
    try simp only [Act.put, List.setIfInBounds_toArray, List.set_cons_zero, List.set_cons_succ]
    refine wpAnyH_take (i := 28) (oi := { dst := some 100, op := Op.load 3 (Operand.tmp 99), type := 3, pos := "law.go:79", after := #[{ on := 27, ground := Ground.data }, { on := 22, ground := Ground.guard }], guard := some (22, true) }) (v := ?vve_28) rfl (by kernel_rfl) (by kernel_rfl) (by kernel_rfl) (fun _ _ _ h => h) (Or.inl ⟨by rfl, ?yye_28⟩) hHeld ?_
    case vve_28 => exact .int .i64 sp
    case yye_28 =>
      intro W hS
      have q0 := Row.cell hS.2.2.2 2
      simp only [HRC.out, List.getElem?_cons_zero, List.getElem?_cons_succ] at q0
      go_simp
    try simp only [Act.put, List.setIfInBounds_toArray, List.set_cons_zero, List.set_cons_succ]
    refine wpAnyH_ready (rs := [24]) (by kernel_rfl) (by simp) (AllReadyH.cons (o := { dst := some 96, op := Op.call { callee := Callee.value (Operand.func 24), args := #[Operand.tmp 95], argTypes := #[24] }, type := 3, pos := "law.go:79", after := #[{ on := 23, ground := Ground.data }, { on := 22, ground := Ground.chain }, { on := 22, ground := Ground.guard }], guard := some (22, true) }) rfl (fun K hK => ?_) AllReadyH.nil)
    go_simp
    go_at_call 24
    refine HST.out.mono ?_
    rintro e w1 ⟨rfl, rfl⟩
    refine hK.out _ _ HS0.out (fun hHeld => ?_)
    clear hK K
    try simp only [Act.put, List.setIfInBounds_toArray, List.set_cons_zero, List.set_cons_succ]
    refine wpAnyH_take (i := 29) (oi := { dst := some 101, op := Op.binOp BinOp.eql 3 (Operand.tmp 96) (Operand.tmp 100) 3, type := 4, pos := "law.go:79", after := #[{ on := 24, ground := Ground.data }, { on := 28, ground := Ground.data }, { on := 22, ground := Ground.guard }], guard := some (22, true) }) (v := ?vve_29) rfl (by kernel_rfl) (by kernel_rfl) (by kernel_rfl) (fun _ _ _ h => h) (Or.inl ⟨by rfl, ?yye_29⟩) hHeld ?_
    case vve_29 => exact .bool true
    case yye_29 =>
      intro W hS
      go_simp
    try simp only [Act.put, List.setIfInBounds_toArray, List.set_cons_zero, List.set_cons_succ]
    refine wpAnyH_take (i := 30) (oi := { dst := some 102, op := Op.pick (Operand.tmp 94) (Operand.tmp 101) (Operand.const (Value.bool false)), type := 4, pos := "law.go:79", after := #[{ on := 22, ground := Ground.data }, { on := 29, ground := Ground.data }], guard := none }) (v := ?vve_30) rfl (by kernel_rfl) (by kernel_rfl) (by kernel_rfl) (fun _ _ _ h => h) (Or.inl ⟨by rfl, ?yye_30⟩) hHeld ?_
    case vve_30 => exact .bool true
    case yye_30 =>
      intro W hS
      go_simp
    try simp only [Act.put, List.setIfInBounds_toArray, List.set_cons_zero, List.set_cons_succ]
    refine wpAnyH_take (i := 31) (oi := { dst := some 103, op := Op.move (Operand.tmp 102), type := 4, pos := "law.go:79", after := #[{ on := 30, ground := Ground.data }, { on := 24, ground := Ground.chain }], guard := none }) (v := ?vve_31) rfl (by kernel_rfl) (by kernel_rfl) (by kernel_rfl) (fun _ _ _ h => h) (Or.inl ⟨by rfl, ?yye_31⟩) hHeld ?_
    case vve_31 => exact .bool true
    case yye_31 =>
      intro W hS
      go_simp
    try simp only [Act.put, List.setIfInBounds_toArray, List.set_cons_zero, List.set_cons_succ]
    refine wpAnyH_take (i := 32) (oi := { dst := some 104, op := Op.load 24 (Operand.tmp 2), type := 24, pos := "law.go:79", after := #[{ on := 31, ground := Ground.guard }], guard := some (31, true) }) (v := ?vve_32) rfl (by kernel_rfl) (by kernel_rfl) (by kernel_rfl) (fun _ _ _ h => h) (Or.inl ⟨by rfl, ?yye_32⟩) hHeld ?_
    case vve_32 => exact Value.pointer (some ⟨p, 0, none⟩)
    case yye_32 =>
      intro W hS
      have q0 := Row.cell hS.2.1 0
      simp only [List.getElem?_cons_zero] at q0
      go_simp
    try simp only [Act.put, List.setIfInBounds_toArray, List.set_cons_zero, List.set_cons_succ]
    refine wpAnyH_take (i := 34) (oi := { dst := some 106, op := Op.load 28 (Operand.tmp 3), type := 28, pos := "law.go:79", after := #[{ on := 31, ground := Ground.guard }], guard := some (31, true) }) (v := ?vve_34) rfl (by kernel_rfl) (by kernel_rfl) (by kernel_rfl) (fun _ _ _ h => h) (Or.inl ⟨by rfl, ?yye_34⟩) hHeld ?_
    case vve_34 => exact Value.pointer (some ⟨q, 0, none⟩)
    case yye_34 =>
      intro W hS
      have q0 := Row.cell hS.2.2.1 0
      simp only [List.getElem?_cons_zero] at q0
      go_simp
    try simp only [Act.put, List.setIfInBounds_toArray, List.set_cons_zero, List.set_cons_succ]
    refine wpAnyH_take (i := 35) (oi := { dst := some 107, op := Op.nilCheck (Operand.tmp 106), type := 0, pos := "law.go:79", after := #[{ on := 34, ground := Ground.data }, { on := 31, ground := Ground.guard }], guard := some (31, true) }) (v := ?vve_35) rfl (by kernel_rfl) (by kernel_rfl) (by kernel_rfl) (fun _ _ _ h => h) (Or.inl ⟨by rfl, ?yye_35⟩) hHeld ?_
    case vve_35 => exact Value.pointer (some ⟨q, 0, none⟩)
    case yye_35 =>
      intro W hS
      go_simp
    try simp only [Act.put, List.setIfInBounds_toArray, List.set_cons_zero, List.set_cons_succ]
    refine wpAnyH_take (i := 36) (oi := { dst := some 108, op := Op.fieldAddr 45 (Operand.tmp 107) 1, type := 0, pos := "law.go:79", after := #[{ on := 35, ground := Ground.data }, { on := 31, ground := Ground.guard }], guard := some (31, true) }) (v := ?vve_36) rfl (by kernel_rfl) (by kernel_rfl) (by kernel_rfl) (fun _ _ _ h => h) (Or.inl ⟨by rfl, ?yye_36⟩) hHeld ?_
    case vve_36 => exact .pointer (some ⟨q, 1, none⟩)
    case yye_36 =>
      intro W hS
      go_simp
    try simp only [Act.put, List.setIfInBounds_toArray, List.set_cons_zero, List.set_cons_succ]
    refine wpAnyH_take (i := 37) (oi := { dst := some 109, op := Op.load 43 (Operand.tmp 108), type := 43, pos := "law.go:79", after := #[{ on := 36, ground := Ground.data }, { on := 31, ground := Ground.guard }], guard := some (31, true) }) (v := ?vve_37) rfl (by kernel_rfl) (by kernel_rfl) (by kernel_rfl) (fun _ _ _ h => h) (Or.inl ⟨by rfl, ?yye_37⟩) hHeld ?_
    case vve_37 => exact .slice ha nh hc
    case yye_37 =>
      intro W hS
      have q0 := Row.cell hS.2.2.2 1
      simp only [HRC.out, List.getElem?_cons_zero, List.getElem?_cons_succ] at q0
      go_simp
    try simp only [Act.put, List.setIfInBounds_toArray, List.set_cons_zero, List.set_cons_succ]
    refine wpAnyH_take (i := 38) (oi := { dst := some 110, op := Op.call { callee := Callee.builtin Builtin.len, args := #[Operand.tmp 109], argTypes := #[43] }, type := 3, pos := "law.go:79", after := #[{ on := 37, ground := Ground.data }, { on := 31, ground := Ground.guard }], guard := some (31, true) }) (v := ?vve_38) rfl (by kernel_rfl) (by kernel_rfl) (by kernel_rfl) (fun _ _ _ h => h) (Or.inl ⟨by rfl, ?yye_38⟩) hHeld ?_
    case vve_38 => exact .int .i64 nh
    case yye_38 =>
      intro W hS
      go_simp
    try simp only [Act.put, List.setIfInBounds_toArray, List.set_cons_zero, List.set_cons_succ]
    refine wpAnyH_take (i := 39) (oi := { dst := some 111, op := Op.binOp BinOp.mul 3 (Operand.const (Value.int IntKind.i64 128)) (Operand.tmp 110) 3, type := 3, pos := "law.go:79", after := #[{ on := 38, ground := Ground.data }, { on := 31, ground := Ground.guard }], guard := some (31, true) }) (v := ?vve_39) rfl (by kernel_rfl) (by kernel_rfl) (by kernel_rfl) (fun _ _ _ h => h) (Or.inl ⟨by rfl, ?yye_39⟩) hHeld ?_
    case vve_39 => exact .int .i64 (128 * (nh : Int))
    case yye_39 =>
      intro W hS
      go_simp
      rw [IntKind.wrap_i64]
      omega
    try simp only [Act.put, List.setIfInBounds_toArray, List.set_cons_zero, List.set_cons_succ]
    refine wpAnyH_ready (rs := [33]) (by kernel_rfl) (by simp) (AllReadyH.cons (o := { dst := some 105, op := Op.call { callee := Callee.value (Operand.func 60), args := #[Operand.tmp 104], argTypes := #[24] }, type := 3, pos := "law.go:79", after := #[{ on := 32, ground := Ground.data }, { on := 31, ground := Ground.chain }, { on := 31, ground := Ground.guard }], guard := some (31, true) }) rfl (fun K hK => ?_) AllReadyH.nil)
    go_simp
    go_at_call 60
    refine HHA.out.mono ?_
    rintro e w1 ⟨rfl, rfl⟩
    refine hK.out _ _ HS0.out (fun hHeld => ?_)
    clear hK K
    try simp only [Act.put, List.setIfInBounds_toArray, List.set_cons_zero, List.set_cons_succ]
    refine wpAnyH_take (i := 40) (oi := { dst := some 112, op := Op.binOp BinOp.eql 3 (Operand.tmp 105) (Operand.tmp 111) 3, type := 4, pos := "law.go:79", after := #[{ on := 33, ground := Ground.data }, { on := 39, ground := Ground.data }, { on := 31, ground := Ground.guard }], guard := some (31, true) }) (v := ?vve_40) rfl (by kernel_rfl) (by kernel_rfl) (by kernel_rfl) (fun _ _ _ h => h) (Or.inl ⟨by rfl, ?yye_40⟩) hHeld ?_
    case vve_40 => exact .bool true
    case yye_40 =>
      intro W hS
      go_simp
    try simp only [Act.put, List.setIfInBounds_toArray, List.set_cons_zero, List.set_cons_succ]
    refine wpAnyH_take (i := 41) (oi := { dst := some 113, op := Op.pick (Operand.tmp 103) (Operand.tmp 112) (Operand.const (Value.bool false)), type := 4, pos := "law.go:79", after := #[{ on := 31, ground := Ground.data }, { on := 40, ground := Ground.data }], guard := none }) (v := ?vve_41) rfl (by kernel_rfl) (by kernel_rfl) (by kernel_rfl) (fun _ _ _ h => h) (Or.inl ⟨by rfl, ?yye_41⟩) hHeld ?_
    case vve_41 => exact .bool true
    case yye_41 =>
      intro W hS
      go_simp
    try simp only [Act.put, List.setIfInBounds_toArray, List.set_cons_zero, List.set_cons_succ]
    refine wpAnyH_ready (rs := [42]) (by kernel_rfl) (by simp) (AllReadyH.cons (o := { dst := none, op := Op.store 4 (Operand.tmp 4) (Operand.tmp 113), type := 0, pos := "law.go:79", after := #[{ on := 41, ground := Ground.data }, { on := 33, ground := Ground.chain }, { on := 0, ground := Ground.phase }, { on := 1, ground := Ground.phase }, { on := 2, ground := Ground.phase }, { on := 3, ground := Ground.phase }, { on := 4, ground := Ground.phase }, { on := 5, ground := Ground.phase }, { on := 6, ground := Ground.phase }, { on := 7, ground := Ground.phase }, { on := 8, ground := Ground.phase }, { on := 9, ground := Ground.phase }, { on := 10, ground := Ground.phase }, { on := 11, ground := Ground.phase }, { on := 12, ground := Ground.phase }, { on := 13, ground := Ground.phase }, { on := 14, ground := Ground.phase }, { on := 15, ground := Ground.phase }, { on := 16, ground := Ground.phase }, { on := 17, ground := Ground.phase }, { on := 18, ground := Ground.phase }, { on := 19, ground := Ground.phase }, { on := 20, ground := Ground.phase }, { on := 21, ground := Ground.phase }, { on := 22, ground := Ground.phase }, { on := 23, ground := Ground.phase }, { on := 24, ground := Ground.phase }, { on := 25, ground := Ground.phase }, { on := 26, ground := Ground.phase }, { on := 27, ground := Ground.phase }, { on := 28, ground := Ground.phase }, { on := 29, ground := Ground.phase }, { on := 30, ground := Ground.phase }, { on := 31, ground := Ground.phase }, { on := 32, ground := Ground.phase }, { on := 33, ground := Ground.phase }, { on := 34, ground := Ground.phase }, { on := 35, ground := Ground.phase }, { on := 36, ground := Ground.phase }, { on := 37, ground := Ground.phase }, { on := 38, ground := Ground.phase }, { on := 39, ground := Ground.phase }, { on := 40, ground := Ground.phase }, { on := 41, ground := Ground.phase }], guard := none }) rfl (fun K hK => ?_) AllReadyH.nil)
    have r5 := (Row.drew HR5.out.1).cell 0
    have f5 := (Row.drew HR5.out.1).frozen 0
    simp only [List.getElem?_cons_zero] at r5
    go_simp
    refine hK.out _ _ HS6.out (fun hHeld => ?_)
    clear hK K r5 f5
    try simp only [Act.put, List.setIfInBounds_toArray, List.set_cons_zero, List.set_cons_succ]
    refine wpAnyH_done (by kernel_rfl) ?_ _
    refine NoPanic.normal ?_

    go_wp2_with fail
    obtain ⟨x5, hK', hB6, hD'⟩ := HR5.out
    have hne := HN.out
    have hK5 : ((W'.setCell ⟨br, 0, none⟩ (.bool true)).drew).heap[D']? = some (.deferred (some [])) := (Below.heap_setCell W' ⟨br, 0, none⟩ (.bool true) D' (by show D' ≠ br; omega)).trans hK'
    have hB7 : Below w.heap.size w ((W'.setCell ⟨br, 0, none⟩ (.bool true)).drew) := below_drewK (hB6.setCell (p := ⟨br, 0, none⟩) (by show w.heap.size ≤ br; omega) _) 1
    have hR6 : (((W'.setCell ⟨br, 0, none⟩ (.bool true)).drew).putObj D' (.deferred none)).cell? ⟨br, 0, none⟩ = some (.bool true) := by
      have h2 : Boxed (((W'.setCell ⟨br, 0, none⟩ (.bool true)).drew).putObj D' (.deferred none)) br 4 (.bool true) := (World.putObj_heap_other (by omega)).trans (Row.drew (x5.set 0 (.bool true)))
      exact h2.cell
    refine ⟨by simp, .inl ⟨_, _, rfl, run_takeDeferred hK5, ?_⟩⟩
    exact ⟨.bool true, by simp [results, Tryz.f22, go_sem, hR6], rfl, hB7.trans (belowK_b (w := w) (Nat.le_refl _) _ D' _ _ (by omega) hK5 rfl rfl)⟩
end
end Go.Proofs.YtiaaeniopjpfpaaGreatDoor

namespace Go.Proofs.YtiaaeniopjpfpaaGreatDoor
open Go Go.RowKit Go.Maps Go.Shelf
set_option linter.unusedVariables false
set_option linter.unusedSimpArgs false
attribute [local go_sem] Oper.semAt_some

def CH.text (c : CH) : List UInt8 := (if c.gone then 1 else 0) :: ((cnt c.key).data.toList ++ (cnt c.val).data.toList)
/-- A mark, and the changes behind it. -/
def textL (mk : UInt8) (l : List CH) : List UInt8 := mk :: (l.map CH.text).flatten
theorem text_length (c : CH) : c.text.length = c.key.size + c.val.size + 9 := by
  unfold CH.text
  rw [List.length_cons, List.length_append, Array.length_toList, Array.length_toList]
  show (cnt c.key).size + (cnt c.val).size + 1 = _
  rw [cnt_size, cnt_size]
  omega
theorem textL_snoc (mk : UInt8) (l : List CH) (c : CH) : textL mk (l ++ [c]) = textL mk l ++ c.text := by
  unfold textL
  simp
theorem textL_length (mk : UInt8) (l : List CH) (h : ∀ c ∈ l, c.most) : (textL mk l).length ≤ 1 + l.length * 2000009 := by
  induction l with
  | nil => simp [textL]
  | cons c l ih =>
    have h1 := ih (fun x hx => h x (List.mem_cons_of_mem _ hx))
    have h2 := h c (List.mem_cons_self)
    have h3 := text_length c
    unfold CH.most at h2
    unfold textL at h1 ⊢
    simp only [List.map_cons, List.flatten_cons, List.length_cons, List.length_append] at h1 ⊢
    omega

theorem own_builderF {β : Type} (T e : TypeId) (B b : Nat) (f : β → List Value) : Own (fun (s : β) W => Lib.IsBuilderF T e B b (f s) W) := by
  have one : ∀ (p : Value) (bs : List Value) (X Y : World) (row : Option Nat), Lib.BuilderAtF T e B b p bs X → X.grownBy Y row → (∀ r, row = some r → ∃ o, X.heap[r]? = some o ∧ o.isCells = false) → Lib.BuilderAtF T e B b p bs Y := by
    intro p bs X Y row h hg hrow
    obtain ⟨hB, v, hb, hown, hne⟩ := h
    refine ⟨hB, v, (hg.block b (Array.getElem?_eq_some_iff.1 hb).1 (fun e' => ?_)).trans hb, hown.kept hg ?_, hne⟩
    · obtain ⟨o, ho, hc⟩ := hrow b e'.symm
      rw [hb] at ho; cases ho; cases hc
    · cases hv : v.ownBlock with
      | none => exact .inl rfl
      | some g =>
        refine .inr fun e' => ?_
        obtain ⟨c, fz, hg2⟩ := Lib.ownsRowF_kind hown g hv
        obtain ⟨o, ho, hc⟩ := hrow g (by rw [← e'])
        rw [hg2] at ho; cases ho; cases hc
  intro s X Y row h hg hrow
  rcases h with h | h
  · exact .inl (one _ _ X Y row h hg hrow)
  · exact .inr (one _ _ X Y row h hg hrow)
theorem builderF_below {T e B b : Nat} {bs : List Value} {w w' : World} (h : Lib.IsBuilderF T e B b bs w) (hb : Below w.heap.size w w') : Lib.IsBuilderF T e B b bs w' :=
  own_builderF T e B b (fun (_ : Unit) => bs) () w w' none h (below_grow hb) (fun r e => by cases e)
theorem strCells_byte (s : ByteArray) : Lib.strCells s = Lib.byteCells s.data.toList := rfl

theorem others_keep {T e : TypeId} {B b : Nat} {bs : List Value} {w w' : World} (h : Lib.IsBuilderF T e B b bs w) (hk : Lib.OthersKept e (some b) w w') (hb : Below B w w') : KeepsOthers w w' := by
  have hcell : ∃ cs T' fz, w.heap[b]? = some (.cells cs T' fz) := by
    rcases h with ⟨_, v, h, _⟩ | ⟨_, v, h, _⟩ <;> exact ⟨_, _, _, h⟩
  obtain ⟨cs, T', fz, hc⟩ := hcell
  refine ⟨hb.size, fun k o ho hn => hk k o ho (fun e' => ?_) (fun c fz' e' => ?_)⟩
  · injection e' with e'
    subst e'
    rw [hc] at ho; cases ho; cases hn
  · subst e'; cases hn

set_option maxRecDepth 100000 in
set_option maxHeartbeats 4000000 in
theorem stMarked_any (mk : UInt8) (gf : Nat) (lb : Array Value) (cs : List CH) (w : World) (hcn : cs.length ≤ 1000) (Kp : World → World → Prop)
    (hent : ∀ args w, (callFunc gf args).run Tryz.prog w = .ok (.enter gf args) w)
    (hseq : SeqStopsK Fence.wide 5 Tryz.prog gf lb encM Kp (fun ys => ys.map Subtype.val = cs) (fun pre => pre.map Subtype.val <+: cs) cs.length w)
    (hKt : ∀ {A B C : World}, Kp A B → Kp B C → Kp A C) (hKk : ∀ W W', (∀ k, k < w.heap.size → W'.heap[k]? = W.heap[k]?) → Kp W W') :
    Calls Tryz.prog 106 #[.int .u8 mk.toNat, .func (.func gf) #[] lb] w fun e w' => e = .returned (.string (tx (textL mk cs))) ∧ Below w.heap.size w w' := by
  refine (callsIn_wide (n := 6)).1 ?_
  refine callsIn_of_wp_marks Tryz.func106 rfl trivial ?_ rfl
  simp only [Tryz.ntmps106, List.size_toArray, List.length_cons, List.length_nil, Nat.reduceAdd, Nat.reduceSub, Array.replicate_succ, Array.replicate_zero, List.push_toArray, List.append_toArray, List.nil_append, List.cons_append]
  rw [wpIn_wide]
  obtain ⟨b, hb⟩ : ∃ b, w.heap.size = b := ⟨_, rfl⟩
  have hI0 := Lib.fresh_isBuilder 127 5 w
  have hB0 : Below w.heap.size w (w.alloc (.cells #[.pointer none, .slice none 0 0] 127)) := (Below.refl _ _).alloc (Nat.le_refl _) _
  rw [hb] at hI0 hB0
  have H0 := Lib.hid (And.intro hI0 hB0)
  clear hI0 hB0
  have HS := Lib.hid (And.intro hseq hKk)
  have HB := Lib.hid hb
  clear hseq hKk
  go_wp2_with fail
  refine (WriteByte_any b b [] (mk.toNat : Int) _ (Lib.IsBuilderF.of H0.out.1) (by simp) (by rw [World.size_alloc]; omega)).mono ?_
  rintro e w1 ⟨rfl, hb1, hB1, hk1⟩
  have H1 : Hid (Lib.IsBuilderF 127 5 b b (Lib.byteCells (textL mk [])) w1 ∧ Below b w w1) := Lib.hid ⟨.inr hb1, H0.out.2.trans hB1⟩
  clear hb1 hB1 hk1 H0
  go_wp2_with fail
  have hbw : b ≤ w1.heap.size := by have := H1.out.2.size; omega
  have hbw2 : b < w1.heap.size := by
    rcases H1.out.1 with h | h
    · exact h.lt
    · exact h.lt
  rw [← wpIn_wide (n := 6)]
  refine' wpIn_rangeFunc_ownH rfl (by omega) (gf := gf) (lb := lb) rfl trivial hent
    HS.out.1 hKt (fun W l o o' hl h h1 h2 => HS.out.2 _ _ (fun k hk => World.putObj_heap_other (by omega))) (by rw [hb]; exact H1.out.2) (fun _ => rfl)
    (fun (pre : List Cm) W => Lib.IsBuilderF 127 5 b b (Lib.byteCells (textL mk (pre.map Subtype.val))) W ∧ Below b w W)
    (fun _ _ _ => False)
    (OwnFrom.and (Own.from (own_builderF 127 5 b b (fun (pre : List Cm) => Lib.byteCells (textL mk (pre.map Subtype.val)))) _) (ownFrom_below (by omega) hbw))
    (fun _ _ _ _ _ hs _ _ => hs)
    ⟨H1.out.1, H1.out.2⟩
    (fun x a' W => ∃ g, (a' = { tmps := #[Value.int IntKind.u8 mk.toNat, Value.func (Fn.func gf) #[] lb, undef, undef, Value.string { data := #[] }, Value.pointer (some ⟨b, 0, none⟩), Value.pointer (some ⟨g, 0, none⟩), undef, Value.int IntKind.u8 mk.toNat, Value.nilIface, Value.func (Fn.func gf) #[] lb, Value.agg #[Value.string x.val.key, Value.string x.val.val, Value.bool x.val.gone], undef, undef, undef, undef, undef, undef, undef, undef, undef, undef, undef, undef, undef], defers := [] } ∧ b < g) ∧ Row W g 76 [.string x.val.key, .string x.val.val, .bool x.val.gone])
    (fun x a' => ax_own _) ?hassign ?hbody ?hdone ?hstop
  case hstop =>
    rintro D c pre W _ hp h _
    exact h.elim
  case hassign =>
    rintro l pre ⟨⟨ck, cv, cg⟩, hx⟩ W K ⟨hI, hB⟩ hK
    have hbW : b < W.heap.size := by
      rcases hI with h | h
      · exact h.lt
      · exact h.lt
    dsimp only [encM]
    gi_wp2
    have ha : Below W.heap.size W (W.alloc (.cells #[.string ck, .string cv, .bool cg] 76)) := (Below.refl _ _).alloc (Nat.le_refl _) _
    exact hK _ _ ((below_others ha).from _) (HS.out.2 _ _ (fun k hk => ha.block k (by omega))) ⟨builderF_below hI ha, hB.trans (ha.mono (Nat.le_of_lt hbW))⟩ ⟨W.heap.size, ⟨rfl, hbW⟩, Row.new W 76 [.string ck, .string cv, .bool cg]⟩
  case hbody =>
    rintro l' pre ⟨⟨ck, cv, cg⟩, hx⟩ a' W hl' hrec ⟨hI, hB⟩ ⟨g, ⟨rfl, hbg⟩, hrow⟩ hlt
    have hgb : g ≠ b := by omega
    have hmost := hx
    have hlen : (textL mk (pre.map Subtype.val)).length ≤ 1 + (pre.map Subtype.val).length * 2000009 := textL_length mk _ (fun c hc => by
      obtain ⟨x, _, rfl⟩ := List.mem_map.1 hc
      exact x.2)
    rw [List.length_map] at hlen
    obtain ⟨T, hT⟩ : ∃ T, textL mk (pre.map Subtype.val) = T := ⟨_, rfl⟩
    rw [hT] at hI hlen
    obtain ⟨hk1, hk2⟩ : ck.size ≤ 1000000 ∧ cv.size ≤ 1000000 := hmost
    have hbl : (Lib.byteCells T).length ≤ 2000010000 := by rw [Lib.byteCells_length]; omega
    have hW1 := fun c : Int => WriteByte_any b b (Lib.byteCells T) c W hI (by omega) (by have := hB.size; omega)
    have c0 := hrow.cell 0
    have c1 := hrow.cell 1
    have c2 := hrow.cell 2
    simp only [List.getElem?_cons_zero, List.getElem?_cons_succ] at c0 c1 c2
    have HH := Lib.hid (And.intro hI (And.intro hB (And.intro hrow hW1)))
    clear hI hB hrow hW1
    dsimp only
    cases cg
    all_goals
      gi_wp2_with fail
      refine ⟨trivial, (CallsIn.inRound l' (callsIn_wide.2 (HH.out.2.2.2 _))).mono ?_⟩
      rintro e w2 ⟨rfl, hb2, hB2, hq2⟩
      have r2 := row_other HH.out.2.2.1 hq2 hgb (by decide)
      have hs2 := hB2.size
      have c0 := r2.cell 0
      simp only [List.getElem?_cons_zero, List.getElem?_cons_succ] at c0
      have H2 := Lib.hid (And.intro hb2 (And.intro hB2 (And.intro hq2 r2)))
      clear hb2 hB2 hq2 r2
      gi_wp2_with fail
      refine ⟨trivial, (CallsIn.inRound l' (callsIn_wide.2 (Counted_any ck _ (by omega)))).mono ?_⟩
      rintro e w3 ⟨rfl, hb3⟩
      have hs3 := hb3.size
      have I3 := builderF_below (.inr H2.out.1) hb3
      have r3 := H2.out.2.2.2.below hb3 H2.out.2.2.2.lt
      have c1 := r3.cell 1
      simp only [List.getElem?_cons_zero, List.getElem?_cons_succ] at c1
      have H3 := Lib.hid (And.intro hb3 (And.intro I3 r3))
      clear hb3 I3 r3 c0
      gi_wp2_with fail
      refine ⟨trivial, (CallsIn.inRound l' (callsIn_wide.2 (WriteString_any b b _ (cnt ck) _ H3.out.2.1 (by rw [List.length_append, cnt_size, List.length_singleton]; omega) (by have := H2.out.2.1.size; have := HH.out.2.1.size; omega)))).mono ?_⟩
      rintro e w4 ⟨rfl, hb4, hB4, hq4⟩
      have r4 := row_other H3.out.2.2 hq4 hgb (by decide)
      have hs4 := hB4.size
      have c1 := r4.cell 1
      simp only [List.getElem?_cons_zero, List.getElem?_cons_succ] at c1
      have H4 := Lib.hid (And.intro hb4 (And.intro hB4 (And.intro hq4 r4)))
      clear hb4 hB4 hq4 r4
      gi_wp2_with fail
      refine ⟨trivial, (CallsIn.inRound l' (callsIn_wide.2 (Counted_any cv _ (by omega)))).mono ?_⟩
      rintro e w5 ⟨rfl, hb5⟩
      have hs5 := hb5.size
      have I5 := builderF_below (.inr H4.out.1) hb5
      have H5 := Lib.hid (And.intro hb5 I5)
      clear hb5 I5
      gi_wp2_with fail
      refine ⟨trivial, (CallsIn.inRound l' (callsIn_wide.2 (WriteString_any b b _ (cnt cv) _ H5.out.2 (by have := Lib.strCells_length (cnt ck); rw [List.length_append, List.length_append, cnt_size, this, cnt_size, List.length_singleton]; omega) (by have := H2.out.2.1.size; have := HH.out.2.1.size; omega)))).mono ?_⟩
      rintro e w6 ⟨rfl, hb6, hB6, hq6⟩
      have hbs := HH.out.2.1.size
      have hBall : Below b W w6 := (((H2.out.2.1.trans (H3.out.1.mono (by omega))).trans H4.out.2.1).trans (H5.out.1.mono (by omega))).trans hB6
      have hKO : KeepsOthers W w6 := ((((others_keep HH.out.1 H2.out.2.2.1 H2.out.2.1).trans (below_others H3.out.1)).trans (others_keep H3.out.2.1 H4.out.2.2.1 H4.out.2.1)).trans (below_others H5.out.1)).trans (others_keep H5.out.2 hq6 hB6)
      gi_wp2
      refine ⟨hKO.from _, HS.out.2 _ _ (fun k hk => hBall.block k (by omega)), ?_, HH.out.2.1.trans hBall⟩
      refine .inr ?_
      rw [List.map_append, List.map_singleton, textL_snoc, hT]
      simpa [CH.text, Lib.byteCells, Lib.strCells] using hb6
  case hdone =>
    rintro D ys W hD hys ⟨hI, hB⟩ hK
    rw [hys] at hI
    have hST := Lib.hid (StringK_any b b (textL mk cs) W hI (by simp [textL]))
    have HH := Lib.hid (And.intro hB (And.intro hK hD))
    clear hI hB hK hD
    go_wp2_with fail
    refine hST.out.mono ?_
    rintro e w5 ⟨rfl, _, hB5, hk5⟩
    go_wp2_with fail
    have hKd : w5.heap[D]? = some (.deferred (some [])) := hk5 D _ HH.out.2.1 (fun e => by have h1 := Option.some.inj e; have h2 : w1.heap.size ≤ D := HH.out.2.2; omega) (fun c fz e => by cases e)
    refine ⟨by simp, .inl ⟨_, _, rfl, run_takeDeferred hKd, ?_⟩⟩
    have hB6 : Below w.heap.size w w5 := by rw [hb]; exact HH.out.1.trans hB5
    have hDb : w.heap.size ≤ D := by
      have h1 : w1.heap.size ≤ D := HH.out.2.2
      omega
    exact ⟨_, results_tmp rfl _ _ _, rfl, hB6.trans (belowK_b (w := w) (Nat.le_refl _) _ D _ _ hDb hKd rfl rfl)⟩

theorem stText_any (v : Value) (cs : List CH) (w : World) (hcn : cs.length ≤ 1000) (hmost : ∀ c ∈ cs, c.most) (hr : ChRow w v cs) (hown : ∀ g, v.ownBlock = some g → g < w.heap.size) :
    Calls Tryz.prog 75 #[v] w fun e w' => e = .returned (.string (tx (textL 99 cs))) ∧ Below w.heap.size w w' := by
  obtain ⟨a, cap, hv, _⟩ := id hr
  have hVI := (callsIn_wide (n := 0)).1 (Values_in 0 v a cs.length cap hv w)
  have hb := Boxed.new w 72 v
  have hb0 : Below w.heap.size w (w.alloc (.cells #[v] 72)) := (Below.refl _ _).alloc (Nat.le_refl _) _
  have hr2 := hr.below hb0
  have hM := stMarked_any 99 131 #[.pointer (some ⟨w.heap.size, 0, none⟩)] cs (w.alloc (.cells #[v] 72)) hcn (KeepsV w.heap.size v)
    (enters_of Tryz.func131 (by kernel_rfl) rfl) (Values_stops 5 (by omega) w.heap.size v cs (by omega) hmost _ hb hr2) keepsV_t
    (fun W W' hk => ⟨hk _ (by rw [World.size_alloc]; omega), fun g hg => hk g (by rw [World.size_alloc]; have := hown g hg; omega)⟩)
  have HM := Lib.hid hM
  have HVI := Lib.hid hVI
  have HB0 := Lib.hid hb0
  clear hM hVI hb0 hb hr2 hr hown
  subst hv
  go_enter Tryz.func75, Tryz.ntmps75
  go_wp2_with fail
  refine HVI.out.mono ?_
  rintro e w1 ⟨rfl, rfl⟩
  go_wp2_with fail
  refine HM.out.mono ?_
  rintro e w2 ⟨rfl, hb2⟩
  go_wp2_with fail
  go_ret
  exact ⟨rfl, HB0.out.trans (hb2.mono HB0.out.size)⟩
end Go.Proofs.YtiaaeniopjpfpaaGreatDoor

namespace Go.Proofs.YtiaaeniopjpfpaaGreatDoor
open Go.RowKit Go.Maps
set_option linter.unusedVariables false
set_option linter.unusedSimpArgs false

/-- What a put to the half does to the disk, and its error. -/
def LG.putR (g : LG) (D : DS) (bs : List UInt8) : DS × Int :=
  if D.fault ((2 + g.half * secs D + g.used / 128 : Nat) : Int) ≠ 0 then (D, D.fault ((2 + g.half * secs D + g.used / 128 : Nat) : Int))
  else putG 200 D (2 + g.half * secs D + g.used / 128) ((D.read ((2 + g.half * secs D + g.used / 128 : Nat) : Int)).take (g.used % 128) ++ bs)
def LG.add (g : LG) (D : DS) (t : List UInt8) : (LG × DS) × Int :=
  if g.err ≠ 0 then ((g, D), g.err) else if 16384 < t.length then ((g, D), 5) else if secs D * 128 - g.used < t.length + 28 then ((g, D), 14) else
  if (g.putR D (frameL (g.count + 1) t)).2 ≠ 0 then (({ g with err := (g.putR D (frameL (g.count + 1) t)).2 }, (g.putR D (frameL (g.count + 1) t)).1), (g.putR D (frameL (g.count + 1) t)).2)
  else (({ g with count := g.count + 1, used := g.used + (t.length + 28) }, (g.putR D (frameL (g.count + 1) t)).1), 0)
section
variable {L : Nat → Prop} {w : World} {lp p gl gm : Nat} {hv : Value} {Dm : DataW Unit} {D : DS} {g : LG}
set_option maxRecDepth 20000 in
set_option maxHeartbeats 2000000 in
theorem Add_any (hG : G w) (hL : ∀ k, L k → k < w.heap.size) (hlp : L lp) (hr : Row w lp 83 (g.cells p)) (hd : DiskIs L w p D) (hh : g.half ≤ 1) (hu : g.used ≤ secs D * 128) (hct : g.count ≤ 1000000000)
    (hs : D.steps ≤ 1000000) (hhg : D.hangs.length ≤ 1000000) (t : List UInt8) (he : g.err = 0) (ht : t.length ≤ 16384) (hroom : t.length + 28 ≤ secs D * 128 - g.used) :
    Calls Tryz.prog 16 #[.pointer (some ⟨lp, 0, none⟩), .string (tx t)] w fun e w' => e = .returned (.int .i64 (g.add D t).2) ∧ Row w' lp 83 ((g.add D t).1.1.cells p) ∧ DiskIs L w' p (g.add D t).1.2 ∧ Keeps (fun k => L k ∧ k ≠ lp) w w' := by
  obtain ⟨gl0, gm0, hv0, Dm0, hd0⟩ := id hd
  have hadd : g.add D t = if (g.putR D (frameL (g.count + 1) t)).2 ≠ 0 then (({ g with err := (g.putR D (frameL (g.count + 1) t)).2 }, (g.putR D (frameL (g.count + 1) t)).1), (g.putR D (frameL (g.count + 1) t)).2)
      else (({ g with count := g.count + 1, used := g.used + (t.length + 28) }, (g.putR D (frameL (g.count + 1) t)).1), 0) := by
    unfold LG.add
    rw [if_neg (by simp [he]), if_neg (by omega), if_neg (by omega)]
  rw [hadd]
  have hsec := (secs_le hd0).1
  obtain ⟨k, hk⟩ : ∃ k, t.length = k := ⟨_, rfl⟩
  obtain ⟨F, hF⟩ : ∃ F, frameL (g.count + 1) t = F := ⟨_, rfl⟩
  have hFl : F.length = 28 + k := by rw [← hF, frameL_length, hk]
  obtain ⟨H, hH⟩ : ∃ H, headL (g.count + 1) t = H := ⟨_, rfl⟩
  have hHl : H.length = 28 := by rw [← hH]; exact headL_length _ _
  have hHF : H ++ t = F := by rw [← hF, ← hH]; rfl
  obtain ⟨RD, hRD⟩ : ∃ x, (g.putR D F).1 = x := ⟨_, rfl⟩
  obtain ⟨RE, hRE⟩ : ∃ x, (g.putR D F).2 = x := ⟨_, rfl⟩
  rw [hF, hRD, hRE, hk]
  obtain ⟨TT, hTT⟩ : ∃ TT, (if RE ≠ 0 then (({ g with err := RE }, RD), RE) else (({ g with count := g.count + 1, used := g.used + (k + 28) }, RD), 0) : (LG × DS) × Int) = TT := ⟨_, rfl⟩
  rw [hTT]
  have HTT := Lib.hid hTT
  clear hTT
  obtain ⟨room, hrm⟩ : ∃ r, secs D * 128 - g.used = r := ⟨_, rfl⟩
  have HERR := Lib.hid (Err_any hr)
  have HLEFT := Lib.hid (Left_any hr hd0 hu)
  rw [he] at HERR
  rw [hrm] at HLEFT hroom
  have HPUTw : Hid (∀ wb, Below w.heap.size w wb → ∀ W, Below wb.heap.size wb W → Calls Tryz.prog 52 #[.pointer (some ⟨lp, 0, none⟩), .int .i64 (g.half : Nat), .int .i64 (g.used : Nat), .string (tx F)] W fun e w' => e = .returned (.int .i64 RE) ∧ DiskIs L w' p RD ∧ Keeps L W w') := Lib.hid fun wb hb W hW => by
    have hb2 : Below w.heap.size w W := hb.trans (hW.mono hb.size)
    have h := put_any (L := L) (w := W) (lp := lp) (p := p) (D := D) (g := g) (fun q hq => Nat.lt_of_lt_of_le (hL q hq) hb2.size) hlp (hr.below hb2 hr.lt) (hd.below hb2) g.half g.used 200 hh (by omega) F (by omega) (by omega) hs hhg
    have e1 : (if D.fault ((2 + g.half * secs D + g.used / 128 : Nat) : Int) ≠ 0 then (D, D.fault ((2 + g.half * secs D + g.used / 128 : Nat) : Int)) else putG 200 D (2 + g.half * secs D + g.used / 128) ((D.read ((2 + g.half * secs D + g.used / 128 : Nat) : Int)).take (g.used % 128) ++ F)) = g.putR D F := rfl
    rw [e1, hRD, hRE] at h
    exact h
  have hHHw : ∀ W, Below w.heap.size w W → Calls Tryz.prog 53 #[.int .i64 ((g.count + 1 : Nat) : Int), .string (tx t)] W fun e w' => e = .returned (.string (tx H)) ∧ Below W.heap.size W w' := fun W hb => by
    rw [← hH]
    exact head_any (g.count + 1) t (by omega) (by omega) W (hG.below hb)
  have hADDw : ∀ W, (Op.stringOp .add (tx H) (tx t)).run Tryz.prog W = .ok (.string (tx F)) W := fun W => by rw [← hHF]; exact add_tx H t (by omega) W
  have hts : (tx t).size = k := by rw [tx_size, hk]
  obtain ⟨T, hT⟩ : ∃ T, tx t = T := ⟨_, rfl⟩
  rw [hT] at hHHw hADDw hts ⊢
  obtain ⟨half, hhalf⟩ : ∃ x, g.half = x := ⟨_, rfl⟩
  obtain ⟨used, hused⟩ : ∃ x, g.used = x := ⟨_, rfl⟩
  obtain ⟨count, hcount⟩ : ∃ x, g.count = x := ⟨_, rfl⟩
  rw [hhalf, hused] at HPUTw
  rw [hcount, show ((count + 1 : Nat) : Int) = (count : Int) + 1 by omega] at hHHw
  have HGE := Lib.hid (And.intro hhalf (And.intro hused hcount))
  have HHD0 := Lib.hid hHHw
  have HADD := Lib.hid hADDw
  have hkI : (k : Int) ≤ 16384 := by omega
  have hkr : (k : Int) + 28 ≤ (room : Int) := by omega
  have hctI : (count : Int) ≤ 1000000000 := by omega
  have huI : (used : Int) ≤ 1000000 := by omega
  have HRW := Lib.hid (And.intro hr (And.intro hL (And.intro hlp hd)))
  have HN : Hid (∀ W, Calls Tryz.prog 28 #[.int .i64 (k : Nat)] W fun e w' => e = .returned (.int .i64 ((k : Int) + 28)) ∧ W = w') := Lib.hid fun W => Need_any k (by omega) W
  have HK := Lib.hid hk
  clear hadd hsec hF hFl hH hHl hHF hRD hRE hrm hT hhalf hused hcount hHHw hADDw hk he ht hroom hu hct hs hhg hh hd hd0 hr hlp hL hG
  go_enter Tryz.func16, Tryz.ntmps16
  go_wp2_with fail
  refine HERR.out.mono ?_
  rintro e w1 ⟨rfl, rfl⟩
  go_wp2_with fail
  refine (HN.out _).mono ?_
  rintro e w1 ⟨rfl, rfl⟩
  go_wp2_with fail
  refine HLEFT.out.mono ?_
  rintro e wb ⟨rfl, hbb⟩
  have rb : Row wb lp 83 (g.cells p) := HRW.out.1.below hbb HRW.out.1.lt
  have c3 := rb.cell 3
  simp only [LG.cells, List.getElem?_cons_zero, List.getElem?_cons_succ] at c3
  rw [HGE.out.2.2] at c3
  have HBB := Lib.hid hbb
  have hdr : Below w.heap.size w wb.drew := below_drewK hbb 1
  have HS0 : Hid (Row wb.drew lp 83 (g.cells p)) := Lib.hid rb
  have HHD : Hid _ := Lib.hid (HHD0.out wb.drew hdr)
  have HPUT : Hid _ := Lib.hid (HPUTw.out wb.drew hdr)
  have HLL := Lib.hid HRW.out.2.2.1
  have HLW : Hid (∀ q, q < wb.drew.heap.size → L q → q < wb.drew.heap.size) := Lib.hid fun q h _ => h
  have HDR := Lib.hid hdr
  clear hbb rb hdr HHD0 HPUTw
  go_wp2_with fail
  refine wp_region_noPanic ?_
  refine wp_region_held_drew (S := fun W => Row W lp 83 (g.cells p)) (by kernel_rfl) HS0.out (fun hHeld => ?_)
  refine wpAnyH_take (i := 0) (oi := { dst := some 27, op := Op.move (Operand.tmp 0), type := 30, pos := "log.go:214", after := #[], guard := none }) (v := ?vva_0) rfl (by kernel_rfl) (by kernel_rfl) (by kernel_rfl) (fun _ _ _ h => h) (Or.inl ⟨by rfl, ?yya_0⟩) hHeld ?_
  case vva_0 => exact .pointer (some ⟨lp, 0, none⟩)
  case yya_0 =>
    intro W hS
    go_simp
  try simp only [Act.put, List.setIfInBounds_toArray, List.set_cons_zero, List.set_cons_succ]
  refine wpAnyH_take (i := 1) (oi := { dst := some 28, op := Op.move (Operand.tmp 0), type := 30, pos := "log.go:214", after := #[], guard := none }) (v := ?vva_1) rfl (by kernel_rfl) (by kernel_rfl) (by kernel_rfl) (fun _ _ _ h => h) (Or.inl ⟨by rfl, ?yya_1⟩) hHeld ?_
  case vva_1 => exact .pointer (some ⟨lp, 0, none⟩)
  case yya_1 =>
    intro W hS
    go_simp
  try simp only [Act.put, List.setIfInBounds_toArray, List.set_cons_zero, List.set_cons_succ]
  refine wpAnyH_take (i := 2) (oi := { dst := some 29, op := Op.nilCheck (Operand.tmp 28), type := 0, pos := "log.go:214", after := #[{ on := 1, ground := Ground.data }], guard := none }) (v := ?vva_2) rfl (by kernel_rfl) (by kernel_rfl) (by kernel_rfl) (fun _ _ _ h => h) (Or.inl ⟨by rfl, ?yya_2⟩) hHeld ?_
  case vva_2 => exact .pointer (some ⟨lp, 0, none⟩)
  case yya_2 =>
    intro W hS
    go_simp
  try simp only [Act.put, List.setIfInBounds_toArray, List.set_cons_zero, List.set_cons_succ]
  refine wpAnyH_take (i := 3) (oi := { dst := some 30, op := Op.fieldAddr 83 (Operand.tmp 29) 2, type := 0, pos := "log.go:214", after := #[{ on := 2, ground := Ground.data }], guard := none }) (v := ?vva_3) rfl (by kernel_rfl) (by kernel_rfl) (by kernel_rfl) (fun _ _ _ h => h) (Or.inl ⟨by rfl, ?yya_3⟩) hHeld ?_
  case vva_3 => exact .pointer (some ⟨lp, 2, none⟩)
  case yya_3 =>
    intro W hS
    go_simp
  try simp only [Act.put, List.setIfInBounds_toArray, List.set_cons_zero, List.set_cons_succ]
  refine wpAnyH_take (i := 4) (oi := { dst := some 31, op := Op.load 3 (Operand.tmp 30), type := 3, pos := "log.go:214", after := #[{ on := 3, ground := Ground.data }], guard := none }) (v := ?vva_4) rfl (by kernel_rfl) (by kernel_rfl) (by kernel_rfl) (fun _ _ _ h => h) (Or.inl ⟨by rfl, ?yya_4⟩) hHeld ?_
  case vva_4 => exact .int .i64 (half : Nat)
  case yya_4 =>
    intro W hS
    have q0 := Row.cell hS 2
    simp only [LG.cells, List.getElem?_cons_zero, List.getElem?_cons_succ, HGE.out.1] at q0
    go_simp
  try simp only [Act.put, List.setIfInBounds_toArray, List.set_cons_zero, List.set_cons_succ]
  refine wpAnyH_take (i := 5) (oi := { dst := some 32, op := Op.move (Operand.tmp 0), type := 30, pos := "log.go:214", after := #[], guard := none }) (v := ?vva_5) rfl (by kernel_rfl) (by kernel_rfl) (by kernel_rfl) (fun _ _ _ h => h) (Or.inl ⟨by rfl, ?yya_5⟩) hHeld ?_
  case vva_5 => exact .pointer (some ⟨lp, 0, none⟩)
  case yya_5 =>
    intro W hS
    go_simp
  try simp only [Act.put, List.setIfInBounds_toArray, List.set_cons_zero, List.set_cons_succ]
  refine wpAnyH_take (i := 6) (oi := { dst := some 33, op := Op.nilCheck (Operand.tmp 32), type := 0, pos := "log.go:214", after := #[{ on := 5, ground := Ground.data }], guard := none }) (v := ?vva_6) rfl (by kernel_rfl) (by kernel_rfl) (by kernel_rfl) (fun _ _ _ h => h) (Or.inl ⟨by rfl, ?yya_6⟩) hHeld ?_
  case vva_6 => exact .pointer (some ⟨lp, 0, none⟩)
  case yya_6 =>
    intro W hS
    go_simp
  try simp only [Act.put, List.setIfInBounds_toArray, List.set_cons_zero, List.set_cons_succ]
  refine wpAnyH_take (i := 7) (oi := { dst := some 34, op := Op.fieldAddr 83 (Operand.tmp 33) 4, type := 0, pos := "log.go:214", after := #[{ on := 6, ground := Ground.data }], guard := none }) (v := ?vva_7) rfl (by kernel_rfl) (by kernel_rfl) (by kernel_rfl) (fun _ _ _ h => h) (Or.inl ⟨by rfl, ?yya_7⟩) hHeld ?_
  case vva_7 => exact .pointer (some ⟨lp, 4, none⟩)
  case yya_7 =>
    intro W hS
    go_simp
  try simp only [Act.put, List.setIfInBounds_toArray, List.set_cons_zero, List.set_cons_succ]
  refine wpAnyH_take (i := 8) (oi := { dst := some 35, op := Op.load 3 (Operand.tmp 34), type := 3, pos := "log.go:214", after := #[{ on := 7, ground := Ground.data }], guard := none }) (v := ?vva_8) rfl (by kernel_rfl) (by kernel_rfl) (by kernel_rfl) (fun _ _ _ h => h) (Or.inl ⟨by rfl, ?yya_8⟩) hHeld ?_
  case vva_8 => exact .int .i64 (used : Nat)
  case yya_8 =>
    intro W hS
    have q0 := Row.cell hS 4
    simp only [LG.cells, List.getElem?_cons_zero, List.getElem?_cons_succ, HGE.out.2.1] at q0
    go_simp
  try simp only [Act.put, List.setIfInBounds_toArray, List.set_cons_zero, List.set_cons_succ]
  refine wpAnyH_take (i := 9) (oi := { dst := some 36, op := Op.move (Operand.tmp 6), type := 3, pos := "log.go:214", after := #[], guard := none }) (v := ?vva_9) rfl (by kernel_rfl) (by kernel_rfl) (by kernel_rfl) (fun _ _ _ h => h) (Or.inl ⟨by rfl, ?yya_9⟩) hHeld ?_
  case vva_9 => exact .int .i64 ((count : Int) + 1)
  case yya_9 =>
    intro W hS
    go_simp
  try simp only [Act.put, List.setIfInBounds_toArray, List.set_cons_zero, List.set_cons_succ]
  refine wpAnyH_take (i := 10) (oi := { dst := some 37, op := Op.move (Operand.tmp 1), type := 9, pos := "log.go:214", after := #[], guard := none }) (v := ?vva_10) rfl (by kernel_rfl) (by kernel_rfl) (by kernel_rfl) (fun _ _ _ h => h) (Or.inl ⟨by rfl, ?yya_10⟩) hHeld ?_
  case vva_10 => exact .string T
  case yya_10 =>
    intro W hS
    go_simp
  try simp only [Act.put, List.setIfInBounds_toArray, List.set_cons_zero, List.set_cons_succ]
  refine wpAnyH_take (i := 12) (oi := { dst := some 39, op := Op.move (Operand.tmp 1), type := 9, pos := "log.go:214", after := #[], guard := none }) (v := ?vva_12) rfl (by kernel_rfl) (by kernel_rfl) (by kernel_rfl) (fun _ _ _ h => h) (Or.inl ⟨by rfl, ?yya_12⟩) hHeld ?_
  case vva_12 => exact .string T
  case yya_12 =>
    intro W hS
    go_simp
  try simp only [Act.put, List.setIfInBounds_toArray, List.set_cons_zero, List.set_cons_succ]
  refine wpAnyH_ready (rs := [11]) (by kernel_rfl) (by simp) (AllReadyH.cons (o := { dst := some 38, op := Op.call { callee := Callee.value (Operand.func 53), args := #[Operand.tmp 36, Operand.tmp 37], argTypes := #[3, 9] }, type := 9, pos := "log.go:214", after := #[{ on := 9, ground := Ground.data }, { on := 10, ground := Ground.data }], guard := none }) rfl (fun K hK => ?_) AllReadyH.nil)
  go_simp
  go_at_call 53
  refine HHD.out.mono ?_
  rintro e w4 ⟨rfl, hb4⟩
  have s4 : Row w4 lp 83 (g.cells p) := HS0.out.below hb4 HS0.out.lt
  have HB4 := Lib.hid hb4
  clear hb4
  refine hK.out _ _ s4 (fun hHeld => ?_)
  clear hK K
  try simp only [Act.put, List.setIfInBounds_toArray, List.set_cons_zero, List.set_cons_succ]
  refine wpAnyH_take (i := 13) (oi := { dst := some 40, op := Op.binOp BinOp.add 9 (Operand.tmp 38) (Operand.tmp 39) 9, type := 9, pos := "log.go:214", after := #[{ on := 11, ground := Ground.data }, { on := 12, ground := Ground.data }], guard := none }) (v := ?vva_13) rfl (by kernel_rfl) (by kernel_rfl) (by kernel_rfl) (fun _ _ _ h => h) (Or.inl ⟨by rfl, ?yya_13⟩) hHeld ?_
  case vva_13 => exact .string (tx F)
  case yya_13 =>
    intro W hS
    have q0 := HADD.out W
    go_simp
  try simp only [Act.put, List.setIfInBounds_toArray, List.set_cons_zero, List.set_cons_succ]
  refine wpAnyH_ready (rs := [14]) (by kernel_rfl) (by simp) (AllReadyH.cons (o := { dst := some 41, op := Op.call { callee := Callee.value (Operand.func 52), args := #[Operand.tmp 27, Operand.tmp 31, Operand.tmp 35, Operand.tmp 40], argTypes := #[30, 3, 3, 9] }, type := 25, pos := "log.go:214", after := #[{ on := 0, ground := Ground.data }, { on := 4, ground := Ground.data }, { on := 8, ground := Ground.data }, { on := 13, ground := Ground.data }, { on := 11, ground := Ground.chain }], guard := none }) rfl (fun K hK => ?_) AllReadyH.nil)
  go_simp
  go_at_call 52
  refine (HPUT.out _ HB4.out).mono ?_
  rintro e w5 ⟨rfl, hd5, hk5⟩
  have s5 : Row w5 lp 83 (g.cells p) := (hk5.block lp s4.lt HLL.out).trans s4
  have H5 := Lib.hid (And.intro hd5 (And.intro s5 ((Keeps.of_below (L := L) HB4.out HLW.out).trans hk5)))
  refine hK.out _ _ s5 (fun hHeld => ?_)
  clear hK K hd5 hk5 s4 s5
  try simp only [Act.put, List.setIfInBounds_toArray, List.set_cons_zero, List.set_cons_succ]
  refine wpAnyH_ready (rs := [15]) (by kernel_rfl) (by simp) (AllReadyH.cons (o := { dst := some 7, op := Op.assign (Operand.tmp 41), type := 25, pos := "log.go:214", after := #[{ on := 14, ground := Ground.data }, { on := 14, ground := Ground.chain }, { on := 0, ground := Ground.phase }, { on := 1, ground := Ground.phase }, { on := 2, ground := Ground.phase }, { on := 3, ground := Ground.phase }, { on := 4, ground := Ground.phase }, { on := 5, ground := Ground.phase }, { on := 6, ground := Ground.phase }, { on := 7, ground := Ground.phase }, { on := 8, ground := Ground.phase }, { on := 9, ground := Ground.phase }, { on := 10, ground := Ground.phase }, { on := 11, ground := Ground.phase }, { on := 12, ground := Ground.phase }, { on := 13, ground := Ground.phase }, { on := 14, ground := Ground.phase }], guard := none }) rfl (fun K hK => ?_) AllReadyH.nil)
  go_simp
  refine hK.out _ _ H5.out.2.1 (fun hHeld => ?_)
  clear hK K
  try simp only [Act.put, List.setIfInBounds_toArray, List.set_cons_zero, List.set_cons_succ]
  refine wpAnyH_done (by kernel_rfl) ?_ _
  refine NoPanic.normal ?_
  have hfar : ∀ (W : World) (i : Nat) (v : Value) (q : Nat), q ≠ lp → (W.setCell ⟨lp, i, none⟩ v).heap[q]? = W.heap[q]? := fun W i v q h => Below.heap_setCell W ⟨lp, i, none⟩ v q h
  have HFIN : Hid (∀ W', Keeps (fun q => q ≠ lp) w5 W' → DiskIs L W' p RD ∧ Keeps (fun q => L q ∧ q ≠ lp) w W') := Lib.hid fun W' hk =>
    ⟨H5.out.1.keeps hk (fun q _ h e => h (e ▸ HRW.out.2.2.1)), ((Keeps.of_below (L := fun q => L q ∧ q ≠ lp) HDR.out (fun q h _ => h)).trans (H5.out.2.2.mono (fun q h => h.1))).trans (hk.mono (fun q h => h.2))⟩
  have r5 := H5.out.2.1
  by_cases hRE0 : RE = 0
  · have c3 := r5.cell 3
    have f3 := r5.frozen 3
    simp only [LG.cells, List.getElem?_cons_zero, List.getElem?_cons_succ] at c3
    have hTT := HTT.out
    rw [if_neg (by simp [hRE0])] at hTT
    have HT2 := Lib.hid hTT
    clear hTT
    subst hRE0
    clear hfar
    go_wp2_with fail
    obtain ⟨C6, hC6⟩ : ∃ C6, (g.cells p).set 3 (.int .i64 ((count : Int) + 1)) = C6 := ⟨_, rfl⟩
    have r6 : Row (w5.setCell ⟨lp, 3, none⟩ (.int .i64 ((count : Int) + 1))) lp 83 C6 := by rw [← hC6]; exact r5.set 3 _
    have HK6 : Hid (Keeps (fun q => q ≠ lp) w5 (w5.setCell ⟨lp, 3, none⟩ (.int .i64 ((count : Int) + 1)))) := Lib.hid ((Keeps.refl _ _).setCell (p := ⟨lp, 3, none⟩) (.inl (fun h => h rfl)) _)
    generalize w5.setCell ⟨lp, 3, none⟩ (.int .i64 ((count : Int) + 1)) = w6 at r6 HK6 ⊢
    have HS6 : Hid (Row w6.drew lp 83 C6) := Lib.hid r6
    have HC6 : Hid (C6[4]? = some (.int .i64 (used : Nat))) := Lib.hid (by rw [← hC6]; simp [LG.cells, HGE.out.2.1])
    have HCC := Lib.hid hC6
    clear r6 hC6 c3 f3 r5
    refine wp_region_noPanic ?_
    refine region_held_last 10 (S := fun W => Row W lp 83 C6) (by kernel_rfl) (by kernel_rfl) rfl HS6.out (fun hHeld => ?_)
    simp only [List.take_succ_cons, List.take_zero]
    refine wpAnyH_take (i := 0) (oi := { dst := some 53, op := Op.move (Operand.tmp 0), type := 30, pos := "log.go:219", after := #[], guard := none }) (v := ?vvb_0) rfl (by kernel_rfl) (by kernel_rfl) (by kernel_rfl) (fun _ _ _ h => h) (Or.inl ⟨by rfl, ?yyb_0⟩) hHeld ?_
    case vvb_0 => exact .pointer (some ⟨lp, 0, none⟩)
    case yyb_0 =>
      intro W hS
      go_simp
    try simp only [Act.put, List.setIfInBounds_toArray, List.set_cons_zero, List.set_cons_succ]
    refine wpAnyH_take (i := 1) (oi := { dst := some 54, op := Op.nilCheck (Operand.tmp 53), type := 0, pos := "log.go:219", after := #[{ on := 0, ground := Ground.data }], guard := none }) (v := ?vvb_1) rfl (by kernel_rfl) (by kernel_rfl) (by kernel_rfl) (fun _ _ _ h => h) (Or.inl ⟨by rfl, ?yyb_1⟩) hHeld ?_
    case vvb_1 => exact .pointer (some ⟨lp, 0, none⟩)
    case yyb_1 =>
      intro W hS
      go_simp
    try simp only [Act.put, List.setIfInBounds_toArray, List.set_cons_zero, List.set_cons_succ]
    refine wpAnyH_take (i := 2) (oi := { dst := some 55, op := Op.fieldAddr 83 (Operand.tmp 54) 4, type := 0, pos := "log.go:219", after := #[{ on := 1, ground := Ground.data }], guard := none }) (v := ?vvb_2) rfl (by kernel_rfl) (by kernel_rfl) (by kernel_rfl) (fun _ _ _ h => h) (Or.inl ⟨by rfl, ?yyb_2⟩) hHeld ?_
    case vvb_2 => exact .pointer (some ⟨lp, 4, none⟩)
    case yyb_2 =>
      intro W hS
      go_simp
    try simp only [Act.put, List.setIfInBounds_toArray, List.set_cons_zero, List.set_cons_succ]
    refine wpAnyH_take (i := 3) (oi := { dst := some 56, op := Op.load 3 (Operand.tmp 55), type := 3, pos := "log.go:219", after := #[{ on := 2, ground := Ground.data }], guard := none }) (v := ?vvb_3) rfl (by kernel_rfl) (by kernel_rfl) (by kernel_rfl) (fun _ _ _ h => h) (Or.inl ⟨by rfl, ?yyb_3⟩) hHeld ?_
    case vvb_3 => exact .int .i64 (used : Nat)
    case yyb_3 =>
      intro W hS
      have q0 := (Row.cell hS 4).trans HC6.out
      go_simp
    try simp only [Act.put, List.setIfInBounds_toArray, List.set_cons_zero, List.set_cons_succ]
    refine wpAnyH_take (i := 4) (oi := { dst := some 57, op := Op.move (Operand.tmp 1), type := 9, pos := "log.go:219", after := #[], guard := none }) (v := ?vvb_4) rfl (by kernel_rfl) (by kernel_rfl) (by kernel_rfl) (fun _ _ _ h => h) (Or.inl ⟨by rfl, ?yyb_4⟩) hHeld ?_
    case vvb_4 => exact .string T
    case yyb_4 =>
      intro W hS
      go_simp
    try simp only [Act.put, List.setIfInBounds_toArray, List.set_cons_zero, List.set_cons_succ]
    refine wpAnyH_take (i := 5) (oi := { dst := some 58, op := Op.call { callee := Callee.builtin Builtin.len, args := #[Operand.tmp 57], argTypes := #[9] }, type := 3, pos := "log.go:219", after := #[{ on := 4, ground := Ground.data }], guard := none }) (v := ?vvb_5) rfl (by kernel_rfl) (by kernel_rfl) (by kernel_rfl) (fun _ _ _ h => h) (Or.inl ⟨by rfl, ?yyb_5⟩) hHeld ?_
    case vvb_5 => exact .int .i64 (k : Nat)
    case yyb_5 =>
      intro W hS
      go_simp
    try simp only [Act.put, List.setIfInBounds_toArray, List.set_cons_zero, List.set_cons_succ]
    refine wpAnyH_ready (rs := [6]) (by kernel_rfl) (by simp) (AllReadyH.cons (o := { dst := some 59, op := Op.call { callee := Callee.value (Operand.func 28), args := #[Operand.tmp 58], argTypes := #[3] }, type := 3, pos := "log.go:219", after := #[{ on := 5, ground := Ground.data }], guard := none }) rfl (fun K hK => ?_) AllReadyH.nil)
    go_simp
    go_at_call 28
    refine (HN.out _).mono ?_
    rintro e w9 ⟨rfl, rfl⟩
    refine hK.out _ _ HS6.out (fun hHeld => ?_)
    clear hK K
    try simp only [Act.put, List.setIfInBounds_toArray, List.set_cons_zero, List.set_cons_succ]
    refine wpAnyH_take (i := 7) (oi := { dst := some 60, op := Op.binOp BinOp.add 3 (Operand.tmp 56) (Operand.tmp 59) 3, type := 3, pos := "log.go:219", after := #[{ on := 3, ground := Ground.data }, { on := 6, ground := Ground.data }], guard := none }) (v := ?vvb_7) rfl (by kernel_rfl) (by kernel_rfl) (by kernel_rfl) (fun _ _ _ h => h) (Or.inl ⟨by rfl, ?yyb_7⟩) hHeld ?_
    case vvb_7 => exact .int .i64 ((used : Int) + ((k : Int) + 28))
    case yyb_7 =>
      intro W hS
      go_simp
      rw [IntKind.wrap_i64]
      omega
    try simp only [Act.put, List.setIfInBounds_toArray, List.set_cons_zero, List.set_cons_succ]
    refine wpAnyH_take (i := 8) (oi := { dst := some 61, op := Op.nilCheck (Operand.tmp 53), type := 0, pos := "log.go:219", after := #[{ on := 0, ground := Ground.data }, { on := 0, ground := Ground.phase }, { on := 1, ground := Ground.phase }, { on := 2, ground := Ground.phase }, { on := 3, ground := Ground.phase }, { on := 4, ground := Ground.phase }, { on := 5, ground := Ground.phase }, { on := 6, ground := Ground.phase }, { on := 7, ground := Ground.phase }], guard := none }) (v := ?vvb_8) rfl (by kernel_rfl) (by kernel_rfl) (by kernel_rfl) (fun _ _ _ h => h) (Or.inl ⟨by rfl, ?yyb_8⟩) hHeld ?_
    case vvb_8 => exact .pointer (some ⟨lp, 0, none⟩)
    case yyb_8 =>
      intro W hS
      go_simp
    try simp only [Act.put, List.setIfInBounds_toArray, List.set_cons_zero, List.set_cons_succ]
    refine wpAnyH_take (i := 9) (oi := { dst := some 62, op := Op.fieldAddr 83 (Operand.tmp 61) 4, type := 0, pos := "log.go:219", after := #[{ on := 8, ground := Ground.data }, { on := 0, ground := Ground.phase }, { on := 1, ground := Ground.phase }, { on := 2, ground := Ground.phase }, { on := 3, ground := Ground.phase }, { on := 4, ground := Ground.phase }, { on := 5, ground := Ground.phase }, { on := 6, ground := Ground.phase }, { on := 7, ground := Ground.phase }], guard := none }) (v := ?vvb_9) rfl (by kernel_rfl) (by kernel_rfl) (by kernel_rfl) (fun _ _ _ h => h) (Or.inl ⟨by rfl, ?yyb_9⟩) hHeld ?_
    case vvb_9 => exact .pointer (some ⟨lp, 4, none⟩)
    case yyb_9 =>
      intro W hS
      go_simp
    try simp only [Act.put, List.setIfInBounds_toArray, List.set_cons_zero, List.set_cons_succ]
    refine wpAnyH_done (by kernel_rfl) ?_ _
    show wpList _ _ _ [_] _ _
    have hc9 := (Row.cell HS6.out 4).trans HC6.out
    have hf9 := Row.frozen HS6.out 4
    go_wp2_with fail
    show NoPanic _ Exit.normal _ _
    refine NoPanic.normal ?_
    go_wp2_with fail
    go_ret
    have r9 := HS6.out.set 4 (.int .i64 ((used : Int) + ((k : Int) + 28)))
    have h9 := HFIN.out (w6.drew.setCell ⟨lp, 4, none⟩ (.int .i64 ((used : Int) + ((k : Int) + 28)))) ((HK6.out.drew1).setCell (p := ⟨lp, 4, none⟩) (.inl (fun h => h rfl)) _)
    rw [← HT2.out]
    refine ⟨rfl, ?_, h9.1, h9.2⟩
    rw [← HCC.out] at r9
    have e9 : (({ g with count := g.count + 1, used := g.used + (k + 28) } : LG).cells p) = ((g.cells p).set 3 (.int .i64 ((count : Int) + 1))).set 4 (.int .i64 ((used : Int) + ((k : Int) + 28))) := by
      simp [LG.cells, HGE.out.2.1, HGE.out.2.2]
    rw [e9]
    exact r9
  · have c5 := r5.cell 5
    have f5 := r5.frozen 5
    simp only [LG.cells, List.getElem?_cons_zero, List.getElem?_cons_succ] at c5
    have hTT := HTT.out
    rw [if_pos hRE0] at hTT
    have HT2 := Lib.hid hTT
    clear hTT
    go_wp2_with fail
    go_ret
    have h := HFIN.out (w5.setCell ⟨lp, 5, none⟩ (.int .i64 RE)) ((Keeps.refl _ _).setCell (p := ⟨lp, 5, none⟩) (.inl (fun h => h rfl)) _)
    rw [← HT2.out]
    exact ⟨rfl, r5.set 5 _, h.1, h.2⟩
end
end Go.Proofs.YtiaaeniopjpfpaaGreatDoor

namespace Go.Proofs.YtiaaeniopjpfpaaGreatDoor
open Go Go.RowKit Go.Maps
set_option linter.unusedVariables false
set_option linter.unusedSimpArgs false

section
variable {L : Nat → Prop} {w : World} {sp lp mp p n : Nat} {D : DS} {g : LG} {M : DataW Unit} {cs : List CH}
abbrev StRow (w : World) (sp lp mp : Nat) : Prop := Row w sp 111 [.pointer (some ⟨lp, 0, none⟩), .map (some mp)]
set_option maxRecDepth 20000 in
set_option maxHeartbeats 1000000 in
theorem stErr_any (hs : StRow w sp lp mp) (hr : Row w lp 83 (g.cells p)) :
    Calls Tryz.prog 36 #[.pointer (some ⟨sp, 0, none⟩)] w fun e w' => e = .returned (.int .i64 g.err) ∧ w = w' := by
  have c0 := hs.cell 0
  simp only [List.getElem?_cons_zero, List.getElem?_cons_succ] at c0
  have HE := Lib.hid (Err_any hr)
  clear hs hr
  go_enter Tryz.func36, Tryz.ntmps36
  go_wp2_with fail
  refine HE.out.mono ?_
  rintro e w1 ⟨rfl, rfl⟩
  go_wp2_with fail
  go_ret
  exact ⟨rfl, rfl⟩

set_option maxRecDepth 20000 in
set_option maxHeartbeats 4000000 in
theorem stDo_add (hG : G w) (hL : ∀ k, L k → k < w.heap.size) (hlp : L lp) (hmp : L mp) (hs : StRow w sp lp mp) (hr : Row w lp 83 (g.cells p)) (hd : DiskIs L w p D)
    (hm : SMap w mp n M) (hn : n ≤ 1000000) (v : Value) (hv : ChRow w v cs) (hvL : ∀ k, v.ownBlock = some k → L k ∧ k ≠ lp) (hsL : L sp) (hne : sp ≠ lp) (hne2 : mp ≠ lp) (hcn : cs.length ≤ 1000) (hc0 : 0 < cs.length) (hmost : ∀ c ∈ cs, c.most ∧ c.fault = 0)
    (hh : g.half ≤ 1) (hu : g.used ≤ secs D * 128) (hct : g.count ≤ 1000000000) (hst : D.steps ≤ 1000000) (hhg : D.hangs.length ≤ 1000000) (he : g.err = 0) (ht : (textL 99 cs).length ≤ 16384) (hroom : (textL 99 cs).length + 28 ≤ secs D * 128 - g.used)
    (hok : (g.add D (textL 99 cs)).2 = 0) :
    Calls Tryz.prog 33 #[.pointer (some ⟨sp, 0, none⟩), v] w fun e w' => e = .returned (.int .i64 0) ∧ Row w' lp 83 ((g.add D (textL 99 cs)).1.1.cells p) ∧
      DiskIs L w' p (g.add D (textL 99 cs)).1.2 ∧ SMap w' mp (n + cs.length) (applyD M cs) ∧ Keeps (fun k => L k ∧ k ≠ lp ∧ k ≠ mp) w w' := by
  have hER := stErr_any hs hr
  rw [he] at hER
  have HER := Lib.hid hER
  obtain ⟨T, hT⟩ : ∃ T, textL 99 cs = T := ⟨_, rfl⟩
  rw [hT] at ht hroom hok ⊢
  have HTX : Hid (∀ W, Below w.heap.size w W → Calls Tryz.prog 75 #[v] W fun e w' => e = .returned (.string (tx T)) ∧ Below W.heap.size W w') := Lib.hid fun W hb => by
    have h := stText_any v cs W hcn (fun c hc => (hmost c hc).1) (hv.below hb) (fun k hk => by have := hL k (hvL k hk).1; have := hb.size; omega)
    rw [hT] at h
    exact h
  have HAD : Hid (∀ W, Below w.heap.size w W → Calls Tryz.prog 16 #[.pointer (some ⟨lp, 0, none⟩), .string (tx T)] W fun e w' => e = .returned (.int .i64 0) ∧ Row w' lp 83 ((g.add D T).1.1.cells p) ∧ DiskIs L w' p (g.add D T).1.2 ∧ Keeps (fun k => L k ∧ k ≠ lp) W w') := Lib.hid fun W hb => by
    have h := Add_any (L := L) (w := W) (lp := lp) (p := p) (D := D) (g := g) (hG.below hb) (fun q hq => Nat.lt_of_lt_of_le (hL q hq) hb.size) hlp (hr.below hb hr.lt) (hd.below hb) hh hu hct hst hhg T he ht hroom
    rw [hok] at h
    exact h
  have HFA : Hid (∀ c ∈ cs, ∀ W, Calls Tryz.prog 74 #[.agg #[.string c.key, .string c.val, .bool c.gone]] W fun e w' => e = .returned (.int .i64 0) ∧ Below W.heap.size W w') := Lib.hid fun c hc W =>
    stFault_any c W (by have := (hmost c hc).1.1; omega) (by have := (hmost c hc).1.2; omega) (hmost c hc).2
  obtain ⟨a, cap, rfl, hg1, hg2⟩ := id hv
  obtain ⟨m, hml⟩ : ∃ m, cs.length = m := ⟨_, rfl⟩
  rw [hml] at HTX hv hvL
  have HRW := Lib.hid (And.intro hr (And.intro hs (And.intro hv (And.intro hm (And.intro hd hL)))))
  have HCN := Lib.hid (And.intro hml (And.intro hg1 hg2))
  have HLL := Lib.hid (And.intro hlp (And.intro hmp (And.intro hsL (And.intro hne (And.intro hne2 (And.intro hvL hn))))))
  have HM := Lib.hid (And.intro hcn hmost)
  rw [hml] at hc0 hcn ⊢
  have hmI : (m : Int) ≤ 1000 := by omega
  have hm0 : 0 < m := hc0
  clear hER hG hL hlp hmp hs hr hd hm hn hv hvL hsL hne hne2 hmost hh hu hct hst hhg he ht hroom hok hT hg1 hg2 hml hcn hc0
  go_enter Tryz.func33, Tryz.ntmps33
  go_wp2_with fail
  refine HER.out.mono ?_
  rintro e w1 ⟨rfl, rfl⟩
  go_wp2_with fail
  go_loopw [18] (fun i wr => ∃ j : Nat, j ≤ m ∧ i = .int .i64 j ∧ Hid (Below w.heap.size w wr)) (fun i _ => m - (intOf i).toNat)
  case atStart => exact ⟨0, Nat.zero_le _, rfl, Lib.hid (Below.refl _ _)⟩
  case round =>
    obtain ⟨j, hj, rfl, HB⟩ := hrel
    by_cases hlt : j < m
    · obtain ⟨c, hc⟩ : ∃ c, cs[j]? = some c := ⟨_, List.getElem?_eq_getElem (by have := HCN.out.1; omega)⟩
      obtain ⟨gb, rfl⟩ := HCN.out.2.1 (by have := HCN.out.1; omega)
      obtain ⟨k0, k1, k2⟩ := chs_at cs j c hc
      have p0 := HCN.out.2.2 gb rfl _ _ k0
      have p1 := HCN.out.2.2 gb rfl _ _ k1
      have p2 := HCN.out.2.2 gb rfl _ _ k2
      have hgl : gb < w.heap.size := World.block_lt_of_cell? w ⟨gb, j * 3, none⟩ p0
      have q0 := (HB.out.cell (p := ⟨gb, j * 3, none⟩) hgl).trans p0
      have q1 := (HB.out.cell (p := ⟨gb, j * 3 + 1, none⟩) hgl).trans p1
      have q2 := (HB.out.cell (p := ⟨gb, j * 3 + 2, none⟩) hgl).trans p2
      have HF := Lib.hid (HFA.out c (List.mem_of_getElem? hc))
      have hltI : (j : Int) < (m : Int) := by omega
      obtain ⟨ck, cv, cg⟩ := c
      dsimp only at q0 q1 q2 HF
      have hsw := HB.out.size
      clear k0 k1 k2 p0 p1 p2 hc
      go_wp2_with fail
      refine (HF.out _).mono ?_
      rintro e w2 ⟨rfl, hb2⟩
      have HB2 : Hid (Below w.heap.size w w2) := Lib.hid ((HB.out.alloc hsw (.cells #[.string ck, .string cv, .bool cg] 76)).trans (hb2.mono (by rw [World.size_alloc]; omega)))
      clear hb2
      go_wp2_with fail
      go_roundw
      case rel => exact ⟨j + 1, by omega, by go_num, HB2⟩
      case measure => simp [intOf]; omega
    · have hnlt : ¬ (j : Int) < (m : Int) := by omega
      have hmpos : (0 : Int) < (m : Int) := by omega
      have hmz : ((m : Int) == 0) = false := by rw [beq_eq_false_iff_ne]; omega
      have hs2 : StRow wr sp lp mp := HRW.out.2.1.below HB.out HRW.out.2.1.lt
      have HS2 := Lib.hid hs2
      clear hs2
      go_wp2_with fail
      have hbd : Below w.heap.size w wr.drew := below_drewK HB.out 1
      have HBD := Lib.hid hbd
      have HSD : Hid (StRow wr.drew sp lp mp) := Lib.hid HS2.out
      clear hbd
      refine wp_region_noPanic ?_
      refine wp_region_held_drew (S := fun W => StRow W sp lp mp) (by kernel_rfl) HSD.out (fun hHeld => ?_)
      refine wpAnyH_take (i := 0) (oi := { dst := some 31, op := Op.move (Operand.tmp 0), type := 63, pos := "store.go:167", after := #[], guard := none }) (v := ?vva_0) rfl (by kernel_rfl) (by kernel_rfl) (by kernel_rfl) (fun _ _ _ h => h) (Or.inl ⟨by rfl, ?yya_0⟩) hHeld ?_
      case vva_0 => exact .pointer (some ⟨sp, 0, none⟩)
      case yya_0 =>
        intro W hS
        go_simp
      try simp only [Act.put, List.setIfInBounds_toArray, List.set_cons_zero, List.set_cons_succ]
      refine wpAnyH_take (i := 1) (oi := { dst := some 32, op := Op.nilCheck (Operand.tmp 31), type := 0, pos := "store.go:167", after := #[{ on := 0, ground := Ground.data }], guard := none }) (v := ?vva_1) rfl (by kernel_rfl) (by kernel_rfl) (by kernel_rfl) (fun _ _ _ h => h) (Or.inl ⟨by rfl, ?yya_1⟩) hHeld ?_
      case vva_1 => exact .pointer (some ⟨sp, 0, none⟩)
      case yya_1 =>
        intro W hS
        go_simp
      try simp only [Act.put, List.setIfInBounds_toArray, List.set_cons_zero, List.set_cons_succ]
      refine wpAnyH_take (i := 2) (oi := { dst := some 33, op := Op.fieldAddr 111 (Operand.tmp 32) 0, type := 0, pos := "store.go:167", after := #[{ on := 1, ground := Ground.data }], guard := none }) (v := ?vva_2) rfl (by kernel_rfl) (by kernel_rfl) (by kernel_rfl) (fun _ _ _ h => h) (Or.inl ⟨by rfl, ?yya_2⟩) hHeld ?_
      case vva_2 => exact .pointer (some ⟨sp, 0, none⟩)
      case yya_2 =>
        intro W hS
        go_simp
      try simp only [Act.put, List.setIfInBounds_toArray, List.set_cons_zero, List.set_cons_succ]
      refine wpAnyH_take (i := 3) (oi := { dst := some 34, op := Op.load 30 (Operand.tmp 33), type := 30, pos := "store.go:167", after := #[{ on := 2, ground := Ground.data }], guard := none }) (v := ?vva_3) rfl (by kernel_rfl) (by kernel_rfl) (by kernel_rfl) (fun _ _ _ h => h) (Or.inl ⟨by rfl, ?yya_3⟩) hHeld ?_
      case vva_3 => exact .pointer (some ⟨lp, 0, none⟩)
      case yya_3 =>
        intro W hS
        have q0 := Row.cell hS 0
        simp only [List.getElem?_cons_zero, List.getElem?_cons_succ] at q0
        go_simp
      try simp only [Act.put, List.setIfInBounds_toArray, List.set_cons_zero, List.set_cons_succ]
      refine wpAnyH_take (i := 4) (oi := { dst := some 35, op := Op.move (Operand.tmp 1), type := 72, pos := "store.go:167", after := #[], guard := none }) (v := ?vva_4) rfl (by kernel_rfl) (by kernel_rfl) (by kernel_rfl) (fun _ _ _ h => h) (Or.inl ⟨by rfl, ?yya_4⟩) hHeld ?_
      case vva_4 => exact .slice a m cap
      case yya_4 =>
        intro W hS
        go_simp
      try simp only [Act.put, List.setIfInBounds_toArray, List.set_cons_zero, List.set_cons_succ]
      refine wpAnyH_ready (rs := [5]) (by kernel_rfl) (by simp) (AllReadyH.cons (o := { dst := some 36, op := Op.call { callee := Callee.value (Operand.func 75), args := #[Operand.tmp 35], argTypes := #[72] }, type := 9, pos := "store.go:167", after := #[{ on := 4, ground := Ground.data }], guard := none }) rfl (fun K hK => ?_) AllReadyH.nil)
      go_simp
      go_at_call 75
      refine (HTX.out _ HBD.out).mono ?_
      rintro e w4 ⟨rfl, hb4⟩
      have s4 : StRow w4 sp lp mp := HSD.out.below hb4 HSD.out.lt
      have HB4 : Hid (Below w.heap.size w w4) := Lib.hid (HBD.out.trans (hb4.mono HBD.out.size))
      clear hb4
      refine hK.out _ _ s4 (fun hHeld => ?_)
      clear hK K
      try simp only [Act.put, List.setIfInBounds_toArray, List.set_cons_zero, List.set_cons_succ]
      refine wpAnyH_ready (rs := [6]) (by kernel_rfl) (by simp) (AllReadyH.cons (o := { dst := some 37, op := Op.call { callee := Callee.value (Operand.func 16), args := #[Operand.tmp 34, Operand.tmp 36], argTypes := #[30, 9] }, type := 25, pos := "store.go:167", after := #[{ on := 3, ground := Ground.data }, { on := 5, ground := Ground.data }, { on := 5, ground := Ground.chain }], guard := none }) rfl (fun K hK => ?_) AllReadyH.nil)
      go_simp
      go_at_call 16
      refine (HAD.out _ HB4.out).mono ?_
      rintro e w5 ⟨rfl, hr5, hd5, hk5⟩
      have s5 : StRow w5 sp lp mp := (hk5.block sp s4.lt ⟨HLL.out.2.2.1, HLL.out.2.2.2.1⟩).trans s4
      have H5 : Hid (Row w5 lp 83 ((g.add D T).1.1.cells p) ∧ DiskIs L w5 p (g.add D T).1.2 ∧ StRow w5 sp lp mp ∧ Keeps (fun k => L k ∧ k ≠ lp) w w5) := Lib.hid ⟨hr5, hd5, s5, (Keeps.of_below (L := fun k => L k ∧ k ≠ lp) HB4.out (fun q h _ => h)).trans hk5⟩
      refine hK.out _ _ s5 (fun hHeld => ?_)
      clear hK K hr5 hd5 hk5 s4 s5
      try simp only [Act.put, List.setIfInBounds_toArray, List.set_cons_zero, List.set_cons_succ]
      refine wpAnyH_ready (rs := [7]) (by kernel_rfl) (by simp) (AllReadyH.cons (o := { dst := some 9, op := Op.assign (Operand.tmp 37), type := 25, pos := "store.go:167", after := #[{ on := 6, ground := Ground.data }, { on := 6, ground := Ground.chain }, { on := 0, ground := Ground.phase }, { on := 1, ground := Ground.phase }, { on := 2, ground := Ground.phase }, { on := 3, ground := Ground.phase }, { on := 4, ground := Ground.phase }, { on := 5, ground := Ground.phase }, { on := 6, ground := Ground.phase }], guard := none }) rfl (fun K hK => ?_) AllReadyH.nil)
      go_simp
      refine hK.out _ _ H5.out.2.2.1 (fun hHeld => ?_)
      clear hK K
      try simp only [Act.put, List.setIfInBounds_toArray, List.set_cons_zero, List.set_cons_succ]
      refine wpAnyH_done (by kernel_rfl) ?_ _
      refine NoPanic.normal ?_
      have s5 := H5.out.2.2.1
      have c1 := s5.cell 1
      simp only [List.getElem?_cons_zero, List.getElem?_cons_succ] at c1
      clear s5
      have HAP : Hid (Calls Tryz.prog 70 #[.map (some mp), .slice a m cap] w5 fun e w' => e = .returned (.tuple #[]) ∧ SMap w' mp (n + m) (applyD M cs) ∧ Keeps (fun k => k ≠ mp) w5 w') := Lib.hid (by
        have hk := H5.out.2.2.2
        have hmp := HRW.out.2.2.2.1
        have hm5 : SMap w5 mp n M := SMap.keep hmp (hk.block mp (World.ownsMap.lt hmp) ⟨HLL.out.2.1, HLL.out.2.2.2.2.1⟩)
        have hv5 : ChRow w5 (.slice a m cap) cs := HRW.out.2.2.1.kept (fun q hq => hk.block q (HRW.out.2.2.2.2.2 q (HLL.out.2.2.2.2.2.1 q hq).1) (HLL.out.2.2.2.2.2.1 q hq))
        have h := apply_any w5 mp n M (.slice a m cap) cs HM.out.1 HLL.out.2.2.2.2.2.2 (fun c hc => by have := (HM.out.2 c hc).1.1; unfold maxLen; omega) hm5 hv5
        rw [HCN.out.1] at h
        exact h)
      go_wp2_with fail
      refine HAP.out.mono ?_
      rintro e w6 ⟨rfl, hm6, hk6⟩
      have H6 := Lib.hid (And.intro hm6 hk6)
      clear hm6 hk6
      go_wp2_with fail
      go_ret
      have hr5 := H5.out.1
      refine ⟨rfl, (H6.out.2.block lp hr5.lt (fun e => HLL.out.2.2.2.2.1 e.symm)).trans hr5, H5.out.2.1.keeps H6.out.2 (fun q _ hq e => hq (by rw [e]; exact HLL.out.2.1)), H6.out.1, ?_⟩
      exact (H5.out.2.2.2.mono (fun q h => ⟨h.1, h.2.1⟩)).trans (H6.out.2.mono (fun q h => h.2.2))
end
end Go.Proofs.YtiaaeniopjpfpaaGreatDoor

namespace Go.Proofs.YtiaaeniopjpfpaaGreatDoor
open Go Go.Shelf Go.RowKit
def Tryz.lays162_ren : Go.Shelf.Ren := ⟨fun | 162 => 86 | 232 => 113 | 227 => 114 | 234 => 115 | 236 => 116 | 228 => 135 | 271 => 136 | 151 => 137 | 120 => 152 | 197 => 153 | 152 => 154 | 260 => 173 | 137 => 174 | 119 => 175 | 224 => 176 | 225 => 177 | 217 => 188 | 266 => 193 | n => n, fun | 9 => 9 | 4 => 4 | 3 => 3 | 5 => 5 | 117 => 165 | 116 => 164 | 0 => 0 | 124 => 168 | 21 => 21 | 105 => 187 | 46 => 169 | 119 => 235 | 139 => 238 | 138 => 237 | n => n, fun | 3 => 2 | 4 => 3 | n => n⟩
theorem Tryz.lays162 : Go.Proofs.Lays.n162 Tryz.prog Tryz.lays162_ren := {
  mixed := by kernel_rfl
  f119 := Tryz.func175.trans (congrArg some (by kernel_rfl))
  f120 := Tryz.func152.trans (congrArg some (by kernel_rfl))
  f137 := Tryz.func174.trans (congrArg some (by kernel_rfl))
  f151 := Tryz.func137.trans (congrArg some (by kernel_rfl))
  f152 := Tryz.func154.trans (congrArg some (by kernel_rfl))
  f162 := Tryz.func86.trans (congrArg some (by kernel_rfl))
  f197 := Tryz.func153.trans (congrArg some (by kernel_rfl))
  f217 := Tryz.func188.trans (congrArg some (by kernel_rfl))
  f224 := Tryz.func176.trans (congrArg some (by kernel_rfl))
  f225 := Tryz.func177.trans (congrArg some (by kernel_rfl))
  f227 := Tryz.func114.trans (congrArg some (by kernel_rfl))
  f228 := Tryz.func135.trans (congrArg some (by kernel_rfl))
  f232 := Tryz.func113.trans (congrArg some (by kernel_rfl))
  f234 := Tryz.func115.trans (congrArg some (by kernel_rfl))
  f236 := Tryz.func116.trans (congrArg some (by kernel_rfl))
  f260 := Tryz.func173.trans (congrArg some (by kernel_rfl))
  f266 := Tryz.func193.trans (congrArg some (by kernel_rfl))
  f271 := Tryz.func136.trans (congrArg some (by kernel_rfl))
  t0 := Tryz.underlying0
  a0 := Tryz.isAgg0
  z0 := Tryz.sizeOf0
  v0 := Tryz.zeroValue0
  t3 := Tryz.underlying3
  a3 := Tryz.isAgg3
  z3 := Tryz.sizeOf3
  v3 := Tryz.zeroValue3
  t4 := Tryz.underlying4
  a4 := Tryz.isAgg4
  z4 := Tryz.sizeOf4
  v4 := Tryz.zeroValue4
  t5 := Tryz.underlying5
  a5 := Tryz.isAgg5
  z5 := Tryz.sizeOf5
  v5 := Tryz.zeroValue5
  t9 := Tryz.underlying9
  a9 := Tryz.isAgg9
  z9 := Tryz.sizeOf9
  v9 := Tryz.zeroValue9
  t21 := Tryz.underlying21
  a21 := Tryz.isAgg21
  z21 := Tryz.sizeOf21
  v21 := Tryz.zeroValue21
  t46 := Tryz.underlying169
  a46 := Tryz.isAgg169
  z46 := Tryz.sizeOf169
  v46 := Tryz.zeroValue169
  t105 := Tryz.underlying187
  a105 := Tryz.isAgg187
  z105 := Tryz.sizeOf187
  v105 := Tryz.zeroValue187
  t116 := Tryz.underlying164
  a116 := Tryz.isAgg164
  z116 := Tryz.sizeOf164
  t117 := Tryz.underlying165
  a117 := Tryz.isAgg165
  z117 := Tryz.sizeOf165
  v117 := Tryz.zeroValue165
  t119 := Tryz.underlying235
  a119 := Tryz.isAgg235
  z119 := Tryz.sizeOf235
  t124 := Tryz.underlying168
  a124 := Tryz.isAgg168
  z124 := Tryz.sizeOf168
  v124 := Tryz.zeroValue168
  t138 := Tryz.underlying237
  a138 := Tryz.isAgg237
  z138 := Tryz.sizeOf237
  v138 := Tryz.zeroValue237
  t139 := Tryz.underlying238
  a139 := Tryz.isAgg238
  z139 := Tryz.sizeOf238
  v139 := Tryz.zeroValue238
  g3 := by kernel_rfl
  g4 := by kernel_rfl }
open Go.RowKit in
theorem Tryz.strings_TrimRight_one (s : ByteArray) (c : UInt8) (hc : c.toNat < 128) (w : World) (hs : s.size ≤ 9223372036854775807) :
    Calls Tryz.prog 86 #[.string s, .string ⟨#[c]⟩] w fun e w' => e = .returned (.string ⟨(Lib.trimRightB s.data.toList c).toArray⟩) ∧ w' = w := Any.strings_TrimRight_one Tryz.lays162 s c hc w hs
end Go.Proofs.YtiaaeniopjpfpaaGreatDoor

namespace Go.Proofs.YtiaaeniopjpfpaaGreatDoor
open Go Go.Shelf Go.RowKit Go.Maps
set_option linter.unusedVariables false
set_option linter.unusedSimpArgs false

theorem fault_in {D : DS} (hd : D.down = false) (j : Nat) (hj : j < D.lasts.length) : D.fault (j : Nat) = 0 := by
  unfold DS.fault
  rw [hd]
  simp only [Bool.false_eq_true, if_false]
  rw [if_pos ⟨by omega, by omega⟩]
theorem isBuilder_below {T e B b : Nat} {bs : List Value} {w w' : World} (h : Lib.IsBuilder T e B b bs w) (hb : Below w.heap.size w w') : Lib.IsBuilder T e B b bs w' := by
  have one : ∀ p, Lib.BuilderAt T e B b p bs w → Lib.BuilderAt T e B b p bs w' := by
    rintro p ⟨hB, v, hbk, hown, hne⟩
    refine ⟨hB, v, (hb.block b (Array.getElem?_eq_some_iff.1 hbk).1).trans hbk, ⟨hown.1, ?_⟩, hne⟩
    rcases hown.2 with h | ⟨g, cap, cur, h1, h2, h3, h4⟩
    · exact .inl h
    · exact .inr ⟨g, cap, cur, h1, h2, (hb.block g (Array.getElem?_eq_some_iff.1 h3).1).trans h3, h4⟩
  exact h.elim (fun x => .inl (one _ x)) (fun x => .inr (one _ x))
/-- The bytes of n sectors from a on. -/
def bytesN (D : DS) (a : Nat) : Nat → List UInt8
  | 0 => []
  | j + 1 => bytesN D a j ++ D.read ((a + j : Nat) : Int)
def LG.bytes (g : LG) (D : DS) : List UInt8 := bytesN D (2 + g.half * secs D) (secs D)
theorem bytesN_length (D : DS) (hD : D.ok) (hdn : D.down = false) (a n : Nat) (h : a + n ≤ D.lasts.length) : (bytesN D a n).length = n * 128 := by
  induction n with
  | zero => rfl
  | succ n ih =>
    unfold bytesN
    rw [List.length_append, ih (by omega), readB_len hD hdn (a + n) (by omega)]
    omega
theorem wp_join {P : Program} {id : Nat} {ops : Array Oper} {b : Bool} {Q : Exit → Act → World → Prop} {a : Act} {w : World} (fr : Act → Nat → Act) (Post : Nat → World → Prop)
    (h1 : (Code.region id ops b).wp P (fun e a' w' => e = .normal ∧ ∃ g, a' = fr a g ∧ Post g w') a w) (h2 : ∀ g w', Post g w' → Q .normal (fr a g) w') : (Code.region id ops b).wp P Q a w :=
  Code.wp_mono (fun e a' w' h => by obtain ⟨rfl, g, rfl, hp⟩ := h; exact h2 g w' hp) h1
section
variable {L : Nat → Prop} {w : World} {lp p gl gm : Nat} {hv : Value} {Dm : DataW Unit} {D : DS} {g : LG}
theorem half_in (hD : D.ok) (half j : Nat) (hh : half ≤ 1) (hj : j < secs D) : 2 + half * secs D + j < D.lasts.length := by
  have := hD.least
  unfold secs at *
  rcases (by omega : half = 0 ∨ half = 1) with rfl | rfl <;> omega

set_option maxRecDepth 20000 in
set_option maxHeartbeats 2000000 in
theorem bytes_any (hr : Row w lp 83 (g.cells p)) (hd : DiskIs L w p D) (hdn : D.down = false) (hh : g.half ≤ 1) :
    Calls Tryz.prog 43 #[.pointer (some ⟨lp, 0, none⟩)] w fun e w' => e = .returned (.tuple #[.string (tx (g.bytes D)), .int .i64 0]) ∧ Below w.heap.size w w' := by
  obtain ⟨gl0, gm0, hv0, Dm0, hd0⟩ := id hd
  have hgood := hd0.good
  have hsec := secs_le hd0
  have hHI := half_in hgood g.half
  have hBW : w.heap.size < (w.alloc (.cells #[.pointer none, .slice none 0 0] 127)).heap.size := by rw [World.size_alloc]; omega
  have hb0 : Below w.heap.size w (w.alloc (.cells #[.pointer none, .slice none 0 0] 127)) := (Below.refl _ _).alloc (Nat.le_refl _) _
  have HSEC := Lib.hid (sectors_any (hr.below hb0 hr.lt) (hd0.below hb0))
  obtain ⟨n, hn⟩ : ∃ n, secs D = n := ⟨_, rfl⟩
  obtain ⟨a, ha⟩ : ∃ a, 2 + g.half * n = a := ⟨_, rfl⟩
  obtain ⟨half, hhalf⟩ : ∃ half, g.half = half := ⟨_, rfl⟩
  have hbyt : g.bytes D = bytesN D a n := by unfold LG.bytes; rw [hn, ha]
  rw [hbyt]
  have HFI : Hid (∀ W, Below w.heap.size w W → Calls Tryz.prog 83 #[.pointer (some ⟨lp, 0, none⟩), .int .i64 (half : Nat)] W fun e w' => e = .returned (.int .i64 (a : Nat)) ∧ W = w') := Lib.hid fun W hb => by
    have h := first_any (hr.below hb hr.lt) (hd0.below hb) g.half hh
    rw [hn, ha, hhalf] at h
    exact h
  have hRD : ∀ j, j < n → ∀ W, Below w.heap.size w W → Calls Tryz.prog 56 #[.pointer (some ⟨p, 0, none⟩), .int .i64 ((a + j : Nat) : Int)] W fun e w' => e = .returned (.tuple #[.agg ((D.read ((a + j : Nat) : Int)).map bv).toArray, .int .i64 0]) ∧ Below W.heap.size W w' := fun j hj W hb => by
    have hl := hHI j hh (by rw [hn]; exact hj)
    rw [hn, ha] at hl
    have h := Read_any (hd0.below hb) ((a + j : Nat) : Int)
    rw [fault_in hdn _ hl] at h
    exact h
  have hRL : ∀ j, j < n → (D.read ((a + j : Nat) : Int)).length = 128 := fun j hj => by
    have hl := hHI j hh (by rw [hn]; exact hj)
    rw [hn, ha] at hl
    exact readB_len hgood hdn _ hl
  have hBL : ∀ j, j ≤ n → (bytesN D a j).length = j * 128 := fun j hj => by
    have hl := hHI (n - 1) hh (by omega)
    rw [hn, ha] at hl
    exact bytesN_length D hgood hdn a j (by omega)
  rw [hn] at HSEC
  have HR := Lib.hid (And.intro hRD (And.intro hRL hr))
  have HBL := Lib.hid hBL
  clear hBL
  have hz := (zero_of_info zB_info).1
  obtain ⟨Z, hZ⟩ : ∃ Z, zB = Z := ⟨_, rfl⟩
  have hZl : Z.length = 128 := by rw [← hZ]; exact zB_len
  rw [hZ] at hz
  have HZ := Lib.hid hZl
  have hnI : (n : Int) ≤ 2047 := by omega
  have haI : (a : Int) ≤ 10000 := by
    have := hHI 0 hh (by omega)
    have := hgood.most
    rw [hn, ha] at *
    omega
  have HHALF := Lib.hid hhalf
  clear hhalf
  have HI0 := Lib.hid (Lib.fresh_isBuilder 127 5 w)
  have HB0 := Lib.hid hb0
  clear hd hd0 hdn hh hgood hsec hHI hn ha hbyt hRD hRL hr hZ hZl hBW hb0
  go_enter Tryz.func43, Tryz.ntmps43
  go_wp2_with fail
  refine HSEC.out.mono ?_
  rintro e w1 ⟨rfl, rfl⟩
  generalize w.alloc (.cells #[.pointer none, .slice none 0 0] 127) = w1 at HI0 HB0 HSEC ⊢
  go_wp2_with fail
  go_loopw [10] (fun i wr => ∃ j : Nat, i = .int .i64 j ∧ j ≤ n ∧ Hid (Lib.IsBuilder 127 5 w.heap.size w.heap.size (Lib.byteCells (bytesN D a j)) wr ∧ Below w.heap.size w wr)) (fun i _ => n - (intOf i).toNat)
  case atStart => exact ⟨0, rfl, Nat.zero_le _, Lib.hid ⟨HI0.out, HB0.out⟩⟩
  case round =>
    obtain ⟨j, rfl, hj, HJ⟩ := hrel
    by_cases hlt : j < n
    · have hltI : (j : Int) < (n : Int) := by omega
      have hj2 : (j : Int) ≤ 2047 := by omega
      obtain ⟨C, hC⟩ : ∃ C, (D.read ((a + j : Nat) : Int)).map bv = C := ⟨_, rfl⟩
      have hCl : C.length = 128 := by rw [← hC, List.length_map, HR.out.2.1 j hlt]
      have hsz := blk_sizeK _ (HR.out.2.1 j hlt)
      have hone := blkV_one (D.read ((a + j : Nat) : Int))
      rw [hC] at hsz hone
      have HRDj : Hid (∀ W, Below w.heap.size w W → Calls Tryz.prog 56 #[.pointer (some ⟨p, 0, none⟩), .int .i64 ((a : Int) + (j : Int))] W fun e w' => e = .returned (.tuple #[.agg C.toArray, .int .i64 0]) ∧ Below W.heap.size W w') := Lib.hid fun W hb => by
        have h := HR.out.1 j hlt W hb
        rw [hC, show ((a + j : Nat) : Int) = (a : Int) + (j : Int) by omega] at h
        exact h
      have HC := Lib.hid (And.intro hC (And.intro hone (And.intro hCl (show (Tryz.prog.info? 90).map (·.size) = some C.toArray.size by rw [List.size_toArray]; exact hsz))))
      have hthZ : ∀ (W : World) (g : Nat), Row W g 90 Z → W.there g 0 C.toArray.size := fun W g h => by
        rw [show C.toArray.size = Z.length by rw [List.size_toArray, hCl, HZ.out]]
        exact row_thereK h 0 _ (by omega)
      have S0 : SB wr wr.drew := SB.dr (Below.refl _ _)
      have HRW : Hid (∀ W, SB wr W → ∀ k, W.cell? ⟨lp, k, none⟩ = (g.cells p)[k]?) := Lib.hid fun W h k => ((HR.out.2.2.below HJ.out.2 HR.out.2.2.lt).below h (by have := HR.out.2.2.lt; have := HJ.out.2.size; omega)).cell k
      have HPS : Hid (∀ (W : World) (g : Nat), SB wr W → Row W g 90 Z → wr.heap.size ≤ g → Row (W.setCells g 0 C) g 90 C ∧ SB wr (W.setCells g 0 C)) := Lib.hid fun W g h hr hg => by
        have hb := below_setCells (w := W) (B := g) (Nat.le_refl _) C 0 W (Below.refl _ _)
        exact ⟨row_setCells C [] Z W (by rw [hCl, HZ.out]) hr, h.trans (hb.mono hg)⟩
      clear hsz hone hCl hC hj
      go_wp2_with fail
      refine wp_join (fun a9 g => ((((((((((((((((((a9.put (some 14) (.pointer (some ⟨lp, 0, none⟩))).put (some 15) (.pointer (some ⟨lp, 0, none⟩))).put (some 16) (.pointer (some ⟨lp, 0, none⟩))).put (some 17) (.pointer (some ⟨p, 0, none⟩))).put (some 18) (.pointer (some ⟨lp, 0, none⟩))).put (some 19) (.pointer (some ⟨lp, 0, none⟩))).put (some 20) (.pointer (some ⟨lp, 0, none⟩))).put (some 21) (.pointer (some ⟨lp, 2, none⟩))).put (some 22) (.int .i64 (half : Nat))).put (some 23) (.int .i64 (a : Nat))).put (some 24) (.int .i64 j)).put (some 25) (.int .i64 ((a : Int) + (j : Int)))).put (some 26) (.tuple #[.agg C.toArray, .int .i64 0])).put (some 13) (.tuple #[.agg C.toArray, .int .i64 0])).put (some 27) (.agg C.toArray)).put (some 28) (.int .i64 0)).put (some 6) (.pointer (some ⟨g, 0, none⟩))).put (some 7) (.int .i64 0)))
        (fun g w' => Row w' g 90 C ∧ SB wr w') ?_ ?_
      · refine wp_region_noPanic ?_
        refine wp_region_held_drew (S := fun W => SB wr W) (by kernel_rfl) S0 (fun hHeld => ?_)
        refine wpAnyH_take (i := 0) (oi := { dst := some 14, op := Op.move (Operand.tmp 0), type := 30, pos := "log.go:162", after := #[], guard := none }) (v := ?vvz1_0) rfl (by kernel_rfl) (by kernel_rfl) (by kernel_rfl) (fun _ _ _ h => h) (Or.inl ⟨by rfl, ?yyz1_0⟩) hHeld ?_
        case vvz1_0 => exact .pointer (some ⟨lp, 0, none⟩)
        case yyz1_0 =>
          intro W hS
          go_simp
        try simp only [Act.put, List.setIfInBounds_toArray, List.set_cons_zero, List.set_cons_succ]
        refine wpAnyH_take (i := 1) (oi := { dst := some 15, op := Op.nilCheck (Operand.tmp 14), type := 0, pos := "log.go:162", after := #[{ on := 0, ground := Ground.data }], guard := none }) (v := ?vvz2_1) rfl (by kernel_rfl) (by kernel_rfl) (by kernel_rfl) (fun _ _ _ h => h) (Or.inl ⟨by rfl, ?yyz2_1⟩) hHeld ?_
        case vvz2_1 => exact .pointer (some ⟨lp, 0, none⟩)
        case yyz2_1 =>
          intro W hS
          go_simp
        try simp only [Act.put, List.setIfInBounds_toArray, List.set_cons_zero, List.set_cons_succ]
        refine wpAnyH_take (i := 2) (oi := { dst := some 16, op := Op.fieldAddr 83 (Operand.tmp 15) 0, type := 0, pos := "log.go:162", after := #[{ on := 1, ground := Ground.data }], guard := none }) (v := ?vvz3_2) rfl (by kernel_rfl) (by kernel_rfl) (by kernel_rfl) (fun _ _ _ h => h) (Or.inl ⟨by rfl, ?yyz3_2⟩) hHeld ?_
        case vvz3_2 => exact .pointer (some ⟨lp, 0, none⟩)
        case yyz3_2 =>
          intro W hS
          go_simp
        try simp only [Act.put, List.setIfInBounds_toArray, List.set_cons_zero, List.set_cons_succ]
        refine wpAnyH_take (i := 3) (oi := { dst := some 17, op := Op.load 24 (Operand.tmp 16), type := 24, pos := "log.go:162", after := #[{ on := 2, ground := Ground.data }], guard := none }) (v := ?vvz4_3) rfl (by kernel_rfl) (by kernel_rfl) (by kernel_rfl) (fun _ _ _ h => h) (Or.inl ⟨by rfl, ?yyz4_3⟩) hHeld ?_
        case vvz4_3 => exact .pointer (some ⟨p, 0, none⟩)
        case yyz4_3 =>
          intro W hS
          have q0 := HRW.out W hS 0
          simp only [LG.cells, List.getElem?_cons_zero] at q0
          go_simp
        try simp only [Act.put, List.setIfInBounds_toArray, List.set_cons_zero, List.set_cons_succ]
        refine wpAnyH_take (i := 4) (oi := { dst := some 18, op := Op.move (Operand.tmp 0), type := 30, pos := "log.go:162", after := #[], guard := none }) (v := ?vvz5_4) rfl (by kernel_rfl) (by kernel_rfl) (by kernel_rfl) (fun _ _ _ h => h) (Or.inl ⟨by rfl, ?yyz5_4⟩) hHeld ?_
        case vvz5_4 => exact .pointer (some ⟨lp, 0, none⟩)
        case yyz5_4 =>
          intro W hS
          go_simp
        try simp only [Act.put, List.setIfInBounds_toArray, List.set_cons_zero, List.set_cons_succ]
        refine wpAnyH_take (i := 5) (oi := { dst := some 19, op := Op.move (Operand.tmp 0), type := 30, pos := "log.go:162", after := #[], guard := none }) (v := ?vvz6_5) rfl (by kernel_rfl) (by kernel_rfl) (by kernel_rfl) (fun _ _ _ h => h) (Or.inl ⟨by rfl, ?yyz6_5⟩) hHeld ?_
        case vvz6_5 => exact .pointer (some ⟨lp, 0, none⟩)
        case yyz6_5 =>
          intro W hS
          go_simp
        try simp only [Act.put, List.setIfInBounds_toArray, List.set_cons_zero, List.set_cons_succ]
        refine wpAnyH_take (i := 6) (oi := { dst := some 20, op := Op.nilCheck (Operand.tmp 19), type := 0, pos := "log.go:162", after := #[{ on := 5, ground := Ground.data }], guard := none }) (v := ?vvz7_6) rfl (by kernel_rfl) (by kernel_rfl) (by kernel_rfl) (fun _ _ _ h => h) (Or.inl ⟨by rfl, ?yyz7_6⟩) hHeld ?_
        case vvz7_6 => exact .pointer (some ⟨lp, 0, none⟩)
        case yyz7_6 =>
          intro W hS
          go_simp
        try simp only [Act.put, List.setIfInBounds_toArray, List.set_cons_zero, List.set_cons_succ]
        refine wpAnyH_take (i := 7) (oi := { dst := some 21, op := Op.fieldAddr 83 (Operand.tmp 20) 2, type := 0, pos := "log.go:162", after := #[{ on := 6, ground := Ground.data }], guard := none }) (v := ?vvz8_7) rfl (by kernel_rfl) (by kernel_rfl) (by kernel_rfl) (fun _ _ _ h => h) (Or.inl ⟨by rfl, ?yyz8_7⟩) hHeld ?_
        case vvz8_7 => exact .pointer (some ⟨lp, 2, none⟩)
        case yyz8_7 =>
          intro W hS
          go_simp
        try simp only [Act.put, List.setIfInBounds_toArray, List.set_cons_zero, List.set_cons_succ]
        refine wpAnyH_take (i := 8) (oi := { dst := some 22, op := Op.load 3 (Operand.tmp 21), type := 3, pos := "log.go:162", after := #[{ on := 7, ground := Ground.data }], guard := none }) (v := ?vvz9_8) rfl (by kernel_rfl) (by kernel_rfl) (by kernel_rfl) (fun _ _ _ h => h) (Or.inl ⟨by rfl, ?yyz9_8⟩) hHeld ?_
        case vvz9_8 => exact .int .i64 (half : Nat)
        case yyz9_8 =>
          intro W hS
          have q0 := HRW.out W hS 2
          simp only [LG.cells, List.getElem?_cons_zero, List.getElem?_cons_succ, HHALF.out] at q0
          go_simp
        try simp only [Act.put, List.setIfInBounds_toArray, List.set_cons_zero, List.set_cons_succ]
        refine wpAnyH_take (i := 10) (oi := { dst := some 24, op := Op.move (Operand.tmp 5), type := 3, pos := "log.go:162", after := #[], guard := none }) (v := ?vvz10_10) rfl (by kernel_rfl) (by kernel_rfl) (by kernel_rfl) (fun _ _ _ h => h) (Or.inl ⟨by rfl, ?yyz10_10⟩) hHeld ?_
        case vvz10_10 => exact .int .i64 j
        case yyz10_10 =>
          intro W hS
          go_simp
        try simp only [Act.put, List.setIfInBounds_toArray, List.set_cons_zero, List.set_cons_succ]
        refine wpAnyH_ready (rs := [9, 16]) (by kernel_rfl) (by simp) (AllReadyH.cons (o := { dst := some 23, op := Op.call { callee := Callee.value (Operand.func 83), args := #[Operand.tmp 18, Operand.tmp 22], argTypes := #[30, 3] }, type := 3, pos := "log.go:162", after := #[{ on := 4, ground := Ground.data }, { on := 8, ground := Ground.data }], guard := none }) rfl (fun K hK => ?_) (AllReadyH.cons (o := { dst := some 6, op := Op.alloc 90, type := 0, pos := "log.go:162", after := #[], guard := none }) rfl (fun K hK => ?_) AllReadyH.nil))
        · go_simp
          go_at_call 83
          refine (HFI.out _ (HJ.out.2.trans (Below.mono S0 (HJ.out.2.size)))).mono ?_
          rintro e wf ⟨rfl, rfl⟩
          refine hK.out _ _ S0 (fun hHeld => ?_)
          clear hK K
          try simp only [Act.put, List.setIfInBounds_toArray, List.set_cons_zero, List.set_cons_succ]
          refine wpAnyH_take (i := 11) (oi := { dst := some 25, op := Op.binOp BinOp.add 3 (Operand.tmp 23) (Operand.tmp 24) 3, type := 3, pos := "log.go:162", after := #[{ on := 9, ground := Ground.data }, { on := 10, ground := Ground.data }], guard := none }) (v := ?vvz11_11) rfl (by kernel_rfl) (by kernel_rfl) (by kernel_rfl) (fun _ _ _ h => h) (Or.inl ⟨by rfl, ?yyz11_11⟩) hHeld ?_
          case vvz11_11 => exact .int .i64 ((a : Int) + (j : Int))
          case yyz11_11 =>
            intro W hS
            go_simp
            rw [IntKind.wrap_i64]
            omega
          try simp only [Act.put, List.setIfInBounds_toArray, List.set_cons_zero, List.set_cons_succ]
          refine wpAnyH_ready (rs := [12, 16]) (by kernel_rfl) (by simp) (AllReadyH.cons (o := { dst := some 26, op := Op.call { callee := Callee.value (Operand.func 56), args := #[Operand.tmp 17, Operand.tmp 25], argTypes := #[24, 3] }, type := 98, pos := "log.go:162", after := #[{ on := 3, ground := Ground.data }, { on := 11, ground := Ground.data }, { on := 9, ground := Ground.chain }], guard := none }) rfl (fun K hK => ?_) (AllReadyH.cons (o := { dst := some 6, op := Op.alloc 90, type := 0, pos := "log.go:162", after := #[], guard := none }) rfl (fun K hK => ?_) AllReadyH.nil))
          · go_simp
            go_at_call 56
            refine (HRDj.out _ (HJ.out.2.trans (Below.mono S0 (HJ.out.2.size)))).mono ?_
            rintro e w4 ⟨rfl, hb4⟩
            have s4 := SB.next S0 hb4
            refine hK.out _ _ s4 (fun hHeld => ?_)
            clear hK K
            try simp only [Act.put, List.setIfInBounds_toArray, List.set_cons_zero, List.set_cons_succ]
            refine wpAnyH_take (i := 13) (oi := { dst := some 13, op := Op.move (Operand.tmp 26), type := 98, pos := "log.go:162", after := #[{ on := 12, ground := Ground.data }], guard := none }) (v := ?vvz12_13) rfl (by kernel_rfl) (by kernel_rfl) (by kernel_rfl) (fun _ _ _ h => h) (Or.inl ⟨by rfl, ?yyz12_13⟩) hHeld ?_
            case vvz12_13 => exact .tuple #[.agg C.toArray, .int .i64 0]
            case yyz12_13 =>
              intro W hS
              go_simp
            try simp only [Act.put, List.setIfInBounds_toArray, List.set_cons_zero, List.set_cons_succ]
            refine wpAnyH_take (i := 14) (oi := { dst := some 27, op := Op.extract (Operand.tmp 13) 0, type := 90, pos := "log.go:162", after := #[{ on := 13, ground := Ground.data }], guard := none }) (v := ?vvz13_14) rfl (by kernel_rfl) (by kernel_rfl) (by kernel_rfl) (fun _ _ _ h => h) (Or.inl ⟨by rfl, ?yyz13_14⟩) hHeld ?_
            case vvz13_14 => exact .agg C.toArray
            case yyz13_14 =>
              intro W hS
              go_simp
            try simp only [Act.put, List.setIfInBounds_toArray, List.set_cons_zero, List.set_cons_succ]
            refine wpAnyH_take (i := 15) (oi := { dst := some 28, op := Op.extract (Operand.tmp 13) 1, type := 25, pos := "log.go:162", after := #[{ on := 13, ground := Ground.data }, { on := 17, ground := Ground.gcOnly Departure.lateStores }], guard := none }) (v := ?vvz14_15) rfl (by kernel_rfl) (by kernel_rfl) (by kernel_rfl) (fun _ _ _ h => h) (Or.inl ⟨by rfl, ?yyz14_15⟩) hHeld ?_
            case vvz14_15 => exact .int .i64 0
            case yyz14_15 =>
              intro W hS
              go_simp
            try simp only [Act.put, List.setIfInBounds_toArray, List.set_cons_zero, List.set_cons_succ]
            refine wpAnyH_ready (rs := [16]) (by kernel_rfl) (by simp) (AllReadyH.cons (o := { dst := some 6, op := Op.alloc 90, type := 0, pos := "log.go:162", after := #[], guard := none }) rfl (fun K hK => ?_) AllReadyH.nil)
            go_simp
            have s5 := SB.al s4 (.cells Z.toArray 90)
            have r5 : Row (w4.alloc (.cells Z.toArray 90)) w4.heap.size 90 Z := Row.new w4 _ _
            have z5 : wr.heap.size ≤ w4.heap.size := s4.size
            refine hK.out _ _ s5 (fun hHeld => ?_)
            clear hK K
            try simp only [Act.put, List.setIfInBounds_toArray, List.set_cons_zero, List.set_cons_succ]
            refine wpAnyH_ready (rs := [17]) (by kernel_rfl) (by simp) (AllReadyH.cons (o := { dst := none, op := Op.store 90 (Operand.tmp 6) (Operand.tmp 27), type := 0, pos := "log.go:162", after := #[{ on := 16, ground := Ground.data }, { on := 14, ground := Ground.data }, { on := 12, ground := Ground.chain }, { on := 0, ground := Ground.phase }, { on := 1, ground := Ground.phase }, { on := 2, ground := Ground.phase }, { on := 3, ground := Ground.phase }, { on := 4, ground := Ground.phase }, { on := 5, ground := Ground.phase }, { on := 6, ground := Ground.phase }, { on := 7, ground := Ground.phase }, { on := 8, ground := Ground.phase }, { on := 9, ground := Ground.phase }, { on := 10, ground := Ground.phase }, { on := 11, ground := Ground.phase }, { on := 12, ground := Ground.phase }, { on := 13, ground := Ground.phase }, { on := 14, ground := Ground.phase }, { on := 15, ground := Ground.textOnly Departure.lateStores }, { on := 16, ground := Ground.phase }], guard := none }) rfl (fun K hK => ?_) AllReadyH.nil)
            rw [if_pos (by rfl)]
            refine wp_store_mid _ _ _ rfl w4.heap.size 0 C.toArray rfl rfl (hthZ _ _ r5) HC.out.2.2.2 HC.out.2.1 ?_
            try simp only [Act.put, List.setIfInBounds_toArray, List.set_cons_zero, List.set_cons_succ, List.toList_toArray]
            have hP := HPS.out _ w4.heap.size s5 r5 (by omega)
            refine hK.out _ _ hP.2 (fun hHeld => ?_)
            clear hK K
            try simp only [Act.put, List.setIfInBounds_toArray, List.set_cons_zero, List.set_cons_succ]
            refine wpAnyH_ready (rs := [18]) (by kernel_rfl) (by simp) (AllReadyH.cons (o := { dst := some 7, op := Op.assign (Operand.tmp 28), type := 25, pos := "log.go:162", after := #[{ on := 15, ground := Ground.data }, { on := 17, ground := Ground.chain }, { on := 0, ground := Ground.phase }, { on := 1, ground := Ground.phase }, { on := 2, ground := Ground.phase }, { on := 3, ground := Ground.phase }, { on := 4, ground := Ground.phase }, { on := 5, ground := Ground.phase }, { on := 6, ground := Ground.phase }, { on := 7, ground := Ground.phase }, { on := 8, ground := Ground.phase }, { on := 9, ground := Ground.phase }, { on := 10, ground := Ground.phase }, { on := 11, ground := Ground.phase }, { on := 12, ground := Ground.phase }, { on := 13, ground := Ground.phase }, { on := 14, ground := Ground.phase }, { on := 15, ground := Ground.phase }, { on := 16, ground := Ground.phase }, { on := 17, ground := Ground.phase }], guard := none }) rfl (fun K hK => ?_) AllReadyH.nil)
            go_simp
            refine hK.out _ _ hP.2 (fun hHeld => ?_)
            clear hK K
            try simp only [Act.put, List.setIfInBounds_toArray, List.set_cons_zero, List.set_cons_succ]
            refine wpAnyH_done (by kernel_rfl) ?_ _
            refine NoPanic.normal ?_
            exact ⟨rfl, _, rfl, hP⟩
          · go_simp
            have s3 := SB.al S0 (.cells Z.toArray 90)
            have r3 : Row (wr.drew.alloc (.cells Z.toArray 90)) wr.drew.heap.size 90 Z := Row.new wr.drew _ _
            have z3 : wr.heap.size ≤ wr.drew.heap.size := Nat.le_refl _
            refine hK.out _ _ s3 (fun hHeld => ?_)
            clear hK K
            try simp only [Act.put, List.setIfInBounds_toArray, List.set_cons_zero, List.set_cons_succ]
            refine wpAnyH_ready (rs := [12]) (by kernel_rfl) (by simp) (AllReadyH.cons (o := { dst := some 26, op := Op.call { callee := Callee.value (Operand.func 56), args := #[Operand.tmp 17, Operand.tmp 25], argTypes := #[24, 3] }, type := 98, pos := "log.go:162", after := #[{ on := 3, ground := Ground.data }, { on := 11, ground := Ground.data }, { on := 9, ground := Ground.chain }], guard := none }) rfl (fun K hK => ?_) AllReadyH.nil)
            go_simp
            go_at_call 56
            refine (HRDj.out _ (HJ.out.2.trans (Below.mono s3 (HJ.out.2.size)))).mono ?_
            rintro e w4 ⟨rfl, hb4⟩
            have s4 := SB.next s3 hb4
            have r4 := r3.below hb4 r3.lt
            refine hK.out _ _ s4 (fun hHeld => ?_)
            clear hK K
            try simp only [Act.put, List.setIfInBounds_toArray, List.set_cons_zero, List.set_cons_succ]
            refine wpAnyH_take (i := 13) (oi := { dst := some 13, op := Op.move (Operand.tmp 26), type := 98, pos := "log.go:162", after := #[{ on := 12, ground := Ground.data }], guard := none }) (v := ?vvz15_13) rfl (by kernel_rfl) (by kernel_rfl) (by kernel_rfl) (fun _ _ _ h => h) (Or.inl ⟨by rfl, ?yyz15_13⟩) hHeld ?_
            case vvz15_13 => exact .tuple #[.agg C.toArray, .int .i64 0]
            case yyz15_13 =>
              intro W hS
              go_simp
            try simp only [Act.put, List.setIfInBounds_toArray, List.set_cons_zero, List.set_cons_succ]
            refine wpAnyH_take (i := 14) (oi := { dst := some 27, op := Op.extract (Operand.tmp 13) 0, type := 90, pos := "log.go:162", after := #[{ on := 13, ground := Ground.data }], guard := none }) (v := ?vvz16_14) rfl (by kernel_rfl) (by kernel_rfl) (by kernel_rfl) (fun _ _ _ h => h) (Or.inl ⟨by rfl, ?yyz16_14⟩) hHeld ?_
            case vvz16_14 => exact .agg C.toArray
            case yyz16_14 =>
              intro W hS
              go_simp
            try simp only [Act.put, List.setIfInBounds_toArray, List.set_cons_zero, List.set_cons_succ]
            refine wpAnyH_take (i := 15) (oi := { dst := some 28, op := Op.extract (Operand.tmp 13) 1, type := 25, pos := "log.go:162", after := #[{ on := 13, ground := Ground.data }, { on := 17, ground := Ground.gcOnly Departure.lateStores }], guard := none }) (v := ?vvz17_15) rfl (by kernel_rfl) (by kernel_rfl) (by kernel_rfl) (fun _ _ _ h => h) (Or.inl ⟨by rfl, ?yyz17_15⟩) hHeld ?_
            case vvz17_15 => exact .int .i64 0
            case yyz17_15 =>
              intro W hS
              go_simp
            try simp only [Act.put, List.setIfInBounds_toArray, List.set_cons_zero, List.set_cons_succ]
            refine wpAnyH_ready (rs := [17]) (by kernel_rfl) (by simp) (AllReadyH.cons (o := { dst := none, op := Op.store 90 (Operand.tmp 6) (Operand.tmp 27), type := 0, pos := "log.go:162", after := #[{ on := 16, ground := Ground.data }, { on := 14, ground := Ground.data }, { on := 12, ground := Ground.chain }, { on := 0, ground := Ground.phase }, { on := 1, ground := Ground.phase }, { on := 2, ground := Ground.phase }, { on := 3, ground := Ground.phase }, { on := 4, ground := Ground.phase }, { on := 5, ground := Ground.phase }, { on := 6, ground := Ground.phase }, { on := 7, ground := Ground.phase }, { on := 8, ground := Ground.phase }, { on := 9, ground := Ground.phase }, { on := 10, ground := Ground.phase }, { on := 11, ground := Ground.phase }, { on := 12, ground := Ground.phase }, { on := 13, ground := Ground.phase }, { on := 14, ground := Ground.phase }, { on := 15, ground := Ground.textOnly Departure.lateStores }, { on := 16, ground := Ground.phase }], guard := none }) rfl (fun K hK => ?_) AllReadyH.nil)
            rw [if_pos (by rfl)]
            refine wp_store_mid _ _ _ rfl wr.drew.heap.size 0 C.toArray rfl rfl (hthZ _ _ r4) HC.out.2.2.2 HC.out.2.1 ?_
            try simp only [Act.put, List.setIfInBounds_toArray, List.set_cons_zero, List.set_cons_succ, List.toList_toArray]
            have hP := HPS.out _ wr.drew.heap.size s4 r4 (by omega)
            refine hK.out _ _ hP.2 (fun hHeld => ?_)
            clear hK K
            try simp only [Act.put, List.setIfInBounds_toArray, List.set_cons_zero, List.set_cons_succ]
            refine wpAnyH_ready (rs := [18]) (by kernel_rfl) (by simp) (AllReadyH.cons (o := { dst := some 7, op := Op.assign (Operand.tmp 28), type := 25, pos := "log.go:162", after := #[{ on := 15, ground := Ground.data }, { on := 17, ground := Ground.chain }, { on := 0, ground := Ground.phase }, { on := 1, ground := Ground.phase }, { on := 2, ground := Ground.phase }, { on := 3, ground := Ground.phase }, { on := 4, ground := Ground.phase }, { on := 5, ground := Ground.phase }, { on := 6, ground := Ground.phase }, { on := 7, ground := Ground.phase }, { on := 8, ground := Ground.phase }, { on := 9, ground := Ground.phase }, { on := 10, ground := Ground.phase }, { on := 11, ground := Ground.phase }, { on := 12, ground := Ground.phase }, { on := 13, ground := Ground.phase }, { on := 14, ground := Ground.phase }, { on := 15, ground := Ground.phase }, { on := 16, ground := Ground.phase }, { on := 17, ground := Ground.phase }], guard := none }) rfl (fun K hK => ?_) AllReadyH.nil)
            go_simp
            refine hK.out _ _ hP.2 (fun hHeld => ?_)
            clear hK K
            try simp only [Act.put, List.setIfInBounds_toArray, List.set_cons_zero, List.set_cons_succ]
            refine wpAnyH_done (by kernel_rfl) ?_ _
            refine NoPanic.normal ?_
            exact ⟨rfl, _, rfl, hP⟩
        · go_simp
          have s3 := SB.al S0 (.cells Z.toArray 90)
          have r3 : Row (wr.drew.alloc (.cells Z.toArray 90)) wr.drew.heap.size 90 Z := Row.new wr.drew _ _
          have z3 : wr.heap.size ≤ wr.drew.heap.size := Nat.le_refl _
          refine hK.out _ _ s3 (fun hHeld => ?_)
          clear hK K
          try simp only [Act.put, List.setIfInBounds_toArray, List.set_cons_zero, List.set_cons_succ]
          refine wpAnyH_ready (rs := [9]) (by kernel_rfl) (by simp) (AllReadyH.cons (o := { dst := some 23, op := Op.call { callee := Callee.value (Operand.func 83), args := #[Operand.tmp 18, Operand.tmp 22], argTypes := #[30, 3] }, type := 3, pos := "log.go:162", after := #[{ on := 4, ground := Ground.data }, { on := 8, ground := Ground.data }], guard := none }) rfl (fun K hK => ?_) AllReadyH.nil)
          go_simp
          go_at_call 83
          refine (HFI.out _ (HJ.out.2.trans (Below.mono s3 (HJ.out.2.size)))).mono ?_
          rintro e wf ⟨rfl, rfl⟩
          refine hK.out _ _ s3 (fun hHeld => ?_)
          clear hK K
          try simp only [Act.put, List.setIfInBounds_toArray, List.set_cons_zero, List.set_cons_succ]
          refine wpAnyH_take (i := 11) (oi := { dst := some 25, op := Op.binOp BinOp.add 3 (Operand.tmp 23) (Operand.tmp 24) 3, type := 3, pos := "log.go:162", after := #[{ on := 9, ground := Ground.data }, { on := 10, ground := Ground.data }], guard := none }) (v := ?vvz18_11) rfl (by kernel_rfl) (by kernel_rfl) (by kernel_rfl) (fun _ _ _ h => h) (Or.inl ⟨by rfl, ?yyz18_11⟩) hHeld ?_
          case vvz18_11 => exact .int .i64 ((a : Int) + (j : Int))
          case yyz18_11 =>
            intro W hS
            go_simp
            rw [IntKind.wrap_i64]
            omega
          try simp only [Act.put, List.setIfInBounds_toArray, List.set_cons_zero, List.set_cons_succ]
          refine wpAnyH_ready (rs := [12]) (by kernel_rfl) (by simp) (AllReadyH.cons (o := { dst := some 26, op := Op.call { callee := Callee.value (Operand.func 56), args := #[Operand.tmp 17, Operand.tmp 25], argTypes := #[24, 3] }, type := 98, pos := "log.go:162", after := #[{ on := 3, ground := Ground.data }, { on := 11, ground := Ground.data }, { on := 9, ground := Ground.chain }], guard := none }) rfl (fun K hK => ?_) AllReadyH.nil)
          go_simp
          go_at_call 56
          refine (HRDj.out _ (HJ.out.2.trans (Below.mono s3 (HJ.out.2.size)))).mono ?_
          rintro e w4 ⟨rfl, hb4⟩
          have s4 := SB.next s3 hb4
          have r4 := r3.below hb4 r3.lt
          refine hK.out _ _ s4 (fun hHeld => ?_)
          clear hK K
          try simp only [Act.put, List.setIfInBounds_toArray, List.set_cons_zero, List.set_cons_succ]
          refine wpAnyH_take (i := 13) (oi := { dst := some 13, op := Op.move (Operand.tmp 26), type := 98, pos := "log.go:162", after := #[{ on := 12, ground := Ground.data }], guard := none }) (v := ?vvz19_13) rfl (by kernel_rfl) (by kernel_rfl) (by kernel_rfl) (fun _ _ _ h => h) (Or.inl ⟨by rfl, ?yyz19_13⟩) hHeld ?_
          case vvz19_13 => exact .tuple #[.agg C.toArray, .int .i64 0]
          case yyz19_13 =>
            intro W hS
            go_simp
          try simp only [Act.put, List.setIfInBounds_toArray, List.set_cons_zero, List.set_cons_succ]
          refine wpAnyH_take (i := 14) (oi := { dst := some 27, op := Op.extract (Operand.tmp 13) 0, type := 90, pos := "log.go:162", after := #[{ on := 13, ground := Ground.data }], guard := none }) (v := ?vvz20_14) rfl (by kernel_rfl) (by kernel_rfl) (by kernel_rfl) (fun _ _ _ h => h) (Or.inl ⟨by rfl, ?yyz20_14⟩) hHeld ?_
          case vvz20_14 => exact .agg C.toArray
          case yyz20_14 =>
            intro W hS
            go_simp
          try simp only [Act.put, List.setIfInBounds_toArray, List.set_cons_zero, List.set_cons_succ]
          refine wpAnyH_take (i := 15) (oi := { dst := some 28, op := Op.extract (Operand.tmp 13) 1, type := 25, pos := "log.go:162", after := #[{ on := 13, ground := Ground.data }, { on := 17, ground := Ground.gcOnly Departure.lateStores }], guard := none }) (v := ?vvz21_15) rfl (by kernel_rfl) (by kernel_rfl) (by kernel_rfl) (fun _ _ _ h => h) (Or.inl ⟨by rfl, ?yyz21_15⟩) hHeld ?_
          case vvz21_15 => exact .int .i64 0
          case yyz21_15 =>
            intro W hS
            go_simp
          try simp only [Act.put, List.setIfInBounds_toArray, List.set_cons_zero, List.set_cons_succ]
          refine wpAnyH_ready (rs := [17]) (by kernel_rfl) (by simp) (AllReadyH.cons (o := { dst := none, op := Op.store 90 (Operand.tmp 6) (Operand.tmp 27), type := 0, pos := "log.go:162", after := #[{ on := 16, ground := Ground.data }, { on := 14, ground := Ground.data }, { on := 12, ground := Ground.chain }, { on := 0, ground := Ground.phase }, { on := 1, ground := Ground.phase }, { on := 2, ground := Ground.phase }, { on := 3, ground := Ground.phase }, { on := 4, ground := Ground.phase }, { on := 5, ground := Ground.phase }, { on := 6, ground := Ground.phase }, { on := 7, ground := Ground.phase }, { on := 8, ground := Ground.phase }, { on := 9, ground := Ground.phase }, { on := 10, ground := Ground.phase }, { on := 11, ground := Ground.phase }, { on := 12, ground := Ground.phase }, { on := 13, ground := Ground.phase }, { on := 14, ground := Ground.phase }, { on := 15, ground := Ground.textOnly Departure.lateStores }, { on := 16, ground := Ground.phase }], guard := none }) rfl (fun K hK => ?_) AllReadyH.nil)
          rw [if_pos (by rfl)]
          refine wp_store_mid _ _ _ rfl wr.drew.heap.size 0 C.toArray rfl rfl (hthZ _ _ r4) HC.out.2.2.2 HC.out.2.1 ?_
          try simp only [Act.put, List.setIfInBounds_toArray, List.set_cons_zero, List.set_cons_succ, List.toList_toArray]
          have hP := HPS.out _ wr.drew.heap.size s4 r4 (by omega)
          refine hK.out _ _ hP.2 (fun hHeld => ?_)
          clear hK K
          try simp only [Act.put, List.setIfInBounds_toArray, List.set_cons_zero, List.set_cons_succ]
          refine wpAnyH_ready (rs := [18]) (by kernel_rfl) (by simp) (AllReadyH.cons (o := { dst := some 7, op := Op.assign (Operand.tmp 28), type := 25, pos := "log.go:162", after := #[{ on := 15, ground := Ground.data }, { on := 17, ground := Ground.chain }, { on := 0, ground := Ground.phase }, { on := 1, ground := Ground.phase }, { on := 2, ground := Ground.phase }, { on := 3, ground := Ground.phase }, { on := 4, ground := Ground.phase }, { on := 5, ground := Ground.phase }, { on := 6, ground := Ground.phase }, { on := 7, ground := Ground.phase }, { on := 8, ground := Ground.phase }, { on := 9, ground := Ground.phase }, { on := 10, ground := Ground.phase }, { on := 11, ground := Ground.phase }, { on := 12, ground := Ground.phase }, { on := 13, ground := Ground.phase }, { on := 14, ground := Ground.phase }, { on := 15, ground := Ground.phase }, { on := 16, ground := Ground.phase }, { on := 17, ground := Ground.phase }], guard := none }) rfl (fun K hK => ?_) AllReadyH.nil)
          go_simp
          refine hK.out _ _ hP.2 (fun hHeld => ?_)
          clear hK K
          try simp only [Act.put, List.setIfInBounds_toArray, List.set_cons_zero, List.set_cons_succ]
          refine wpAnyH_done (by kernel_rfl) ?_ _
          refine NoPanic.normal ?_
          exact ⟨rfl, _, rfl, hP⟩

      · intro gb wf hPf
        try simp only [Act.put, List.setIfInBounds_toArray, List.set_cons_zero, List.set_cons_succ]
        have hwf : w.heap.size ≤ wf.heap.size := Nat.le_trans HJ.out.2.size hPf.2.size
        have hWB := BWrite_any w.heap.size w.heap.size gb (Lib.byteCells (bytesN D a j)) C (fun u hu => (Array.all_eq_true_iff_forall_mem.1 HC.out.2.1) u (by simpa using hu)) wf (isBuilder_below HJ.out.1 hPf.2) hPf.1
          (by rw [Lib.byteCells_length, HBL.out j (by omega), HC.out.2.2.1]; omega) hwf
        rw [HC.out.2.2.1, show Lib.byteCells (bytesN D a j) ++ C = Lib.byteCells (bytesN D a (j + 1)) by rw [← HC.out.1, show bytesN D a (j + 1) = bytesN D a j ++ D.read ((a + j : Nat) : Int) from rfl]; exact (List.map_append).symm] at hWB
        have HWB := Lib.hid hWB
        have HPF := Lib.hid (And.intro hPf hwf)
        clear hWB hPf hwf HPS hthZ S0 HRW HC
        go_wp2_with fail
        refine HWB.out.mono ?_
        rintro e w5 ⟨rfl, hb5⟩
        have H5 : Hid (Lib.IsBuilder 127 5 w.heap.size w.heap.size (Lib.byteCells (bytesN D a (j + 1))) w5 ∧ Below w.heap.size w w5) := Lib.hid ⟨.inr hb5.1, (HJ.out.2.trans (HPF.out.1.2.mono HJ.out.2.size)).trans hb5.2.1⟩
        clear hb5
        go_wp2_with fail
        go_roundw
        case rel => exact ⟨j + 1, by go_num, by omega, H5⟩
        case measure => simp [intOf]; omega
    · obtain rfl : j = n := by omega
      go_wp2_with fail
      refine (BString_any w.heap.size w.heap.size (bytesN D a j) wr HJ.out.1 HJ.out.2.size).mono ?_
      rintro e w6 ⟨rfl, hb6⟩
      have H6 := Lib.hid (HJ.out.2.trans hb6)
      clear hb6
      go_wp2_with fail
      go_ret2
      exact ⟨rfl, H6.out⟩
end
end Go.Proofs.YtiaaeniopjpfpaaGreatDoor

namespace Go.Proofs.YtiaaeniopjpfpaaGreatDoor
open Go Go.RowKit Go.Maps
set_option linter.unusedVariables false
set_option linter.unusedSimpArgs false

section
variable {L : Nat → Prop} {w : World} {lp p : Nat} {g : LG}
set_option maxRecDepth 4000 in
theorem wipe_any (hr : Row w lp 83 (g.cells p)) (bs : List UInt8) (hl : bs.length ≤ 1000000000) (hu : (Lib.trimRightB bs 0).length ≤ g.used) :
    Calls Tryz.prog 44 #[.pointer (some ⟨lp, 0, none⟩), .string (tx bs)] w fun e w' => e = .returned (.int .i64 0) ∧ w = w' := by
  have HT : Hid (Calls Tryz.prog 86 #[.string (tx bs), .string ⟨#[0]⟩] w fun e w' => e = .returned (.string (tx (Lib.trimRightB bs 0))) ∧ w' = w) := Lib.hid (by
    have h := Tryz.strings_TrimRight_one (tx bs) 0 (by decide) w (by rw [tx_size]; omega)
    rw [tx_list] at h
    exact h)
  obtain ⟨R, hR⟩ : ∃ R, tx (Lib.trimRightB bs 0) = R := ⟨_, rfl⟩
  have hRs : R.size = (Lib.trimRightB bs 0).length := by rw [← hR, tx_size]
  rw [hR] at HT
  obtain ⟨k, hk⟩ : ∃ k, (Lib.trimRightB bs 0).length = k := ⟨_, rfl⟩
  obtain ⟨u, hu2⟩ : ∃ u, g.used = u := ⟨_, rfl⟩
  rw [hk] at hRs hu
  have c4 := hr.cell 4
  simp only [LG.cells, List.getElem?_cons_zero, List.getElem?_cons_succ] at c4
  rw [hu2] at hu c4
  have hkI : (k : Int) ≤ (u : Int) := by omega
  clear hR hk hu2 hl hr
  go_enter Tryz.func44, Tryz.ntmps44
  go_wp2_with fail
  refine HT.out.mono ?_
  rintro e w1 ⟨rfl, rfl⟩
  go_wp2_with fail
  go_ret
  exact ⟨rfl, rfl⟩
end
end Go.Proofs.YtiaaeniopjpfpaaGreatDoor

namespace Go.Proofs.YtiaaeniopjpfpaaGreatDoor
open Go Go.Shelf Go.RowKit Go.Maps
set_option linter.unusedVariables false
set_option linter.unusedSimpArgs false
attribute [local go_sem] Oper.semAt_some

theorem picks_ok {g : LG} (h : g.ok) {D : DS} (hD : D.ok) (hdn : D.down = false) : (g.picks D 2).ok := by
  have := hD.least
  exact pick_ok (pick_ok h (readB_len hD hdn 0 (by omega))) (readB_len hD hdn 1 (by omega))
theorem str_infoO : (Tryz.prog.info? 9).map (fun i => (i.zero, i.size, i.bytes)) = some (some (.string ⟨#[]⟩), 1, 16) := by kernel_rfl
def LG.zero : LG := ⟨0, 0, 0, 0, 0⟩
/-- The place behind the last frame. -/
def usedL (u : Nat) (pre : List (Nat × List UInt8)) : Nat := match pre.getLast? with
  | none => u
  | some x => x.1
theorem usedL_snoc (u : Nat) (pre : List (Nat × List UInt8)) (x : Nat × List UInt8) : usedL u (pre ++ [x]) = x.1 := by
  unfold usedL
  simp
/-- The log as it is opened. -/
def LG.opened (D : DS) : LG := LG.zero.picks D 2
def LG.opentexts (D : DS) : List (Nat × List UInt8) := framesL ((LG.opened D).bytes D)
def LG.openG (D : DS) : LG := { LG.opened D with used := usedL (LG.opened D).used (LG.opentexts D), count := (LG.opentexts D).length }
theorem own_row_f {β : Type} (B : Nat) (t : TypeId) (f : β → List Value) : Own (fun (s : β) W => Row W B t (f s)) := fun s X Y row h hg hrow => by
  refine (hg.block B h.lt (fun e => ?_)).trans h
  obtain ⟨o, ho, hc⟩ := hrow B e.symm
  rw [show X.heap[B]? = _ from h] at ho
  cases ho
  cases hc
section
variable {L : Nat → Prop} {w : World} {p : Nat} {D : DS}
set_option maxRecDepth 100000 in
set_option maxHeartbeats 4000000 in
theorem Open_any (hG : G w) (hd : DiskIs L w p D) (hdn : D.down = false) (hw : (Lib.trimRightB ((LG.opened D).bytes D) 0).length ≤ (LG.openG D).used) :
    Calls Tryz.prog 11 #[.pointer (some ⟨p, 0, none⟩)] w fun e w' => (∃ lp v, e = .returned (.tuple #[.pointer (some ⟨lp, 0, none⟩), v, .int .i64 0]) ∧ w.heap.size ≤ lp ∧ Row w' lp 83 ((LG.openG D).cells p) ∧
      w'.ownsRow w.heap.size 9 1 v (LG.opentexts D).length ((LG.opentexts D).map fun x => Value.string (tx x.2))) ∧ Below w.heap.size w w' := by
  have hgood : D.ok := by obtain ⟨gl0, gm0, hv0, Dm0, hd0⟩ := id hd; exact hd0.good
  have hsec : secs D ≤ 2047 := by obtain ⟨gl0, gm0, hv0, Dm0, hd0⟩ := id hd; exact (secs_le hd0).1
  have hok : LG.zero.ok := ⟨by decide, by decide⟩
  have hok2 : (LG.opened D).ok := picks_ok hok hgood hdn
  obtain ⟨i0, hi, hz0, hz1, hz2⟩ := info_parts str_infoO
  refine (callsIn_wide (n := 6)).1 ?_
  refine callsIn_of_wp_marks Tryz.func11 rfl trivial ?_ rfl
  simp only [Tryz.ntmps11, List.size_toArray, List.length_cons, List.length_nil, Nat.reduceAdd, Nat.reduceSub, Array.replicate_succ, Array.replicate_zero, List.push_toArray, List.append_toArray, List.nil_append, List.cons_append]
  rw [wpIn_wide]
  have HH := Lib.hid (And.intro hG (And.intro hd (And.intro hdn (And.intro hw (And.intro hgood (And.intro hsec (And.intro hok hok2)))))))
  clear hG hd hdn hw hgood hsec hok hok2
  go_wp2_with fail
  obtain ⟨lp, hlp⟩ : ∃ lp, w.heap.size = lp := ⟨_, rfl⟩
  have H0 : Hid (Row ((w.alloc (.cells #[.pointer (some ⟨p, 0, none⟩), .int .u64 0, .int .i64 0, .int .i64 0, .int .i64 0, .int .i64 0] 83)).alloc (.cells #[.pointer (some ⟨w.heap.size, 0, none⟩)] 30)) lp 83 (LG.zero.cells p) ∧
      Boxed ((w.alloc (.cells #[.pointer (some ⟨p, 0, none⟩), .int .u64 0, .int .i64 0, .int .i64 0, .int .i64 0, .int .i64 0] 83)).alloc (.cells #[.pointer (some ⟨w.heap.size, 0, none⟩)] 30)) (lp + 1) 30 (.pointer (some ⟨lp, 0, none⟩)) ∧
      Below w.heap.size w ((w.alloc (.cells #[.pointer (some ⟨p, 0, none⟩), .int .u64 0, .int .i64 0, .int .i64 0, .int .i64 0, .int .i64 0] 83)).alloc (.cells #[.pointer (some ⟨w.heap.size, 0, none⟩)] 30))) := Lib.hid (by
    subst hlp
    refine ⟨(Row.new w 83 [.pointer (some ⟨p, 0, none⟩), .int .u64 0, .int .i64 0, .int .i64 0, .int .i64 0, .int .i64 0]).alloc _, ?_, ((Below.refl _ _).alloc (Nat.le_refl _) _).alloc (by simp) _⟩
    have h := Boxed.new (w.alloc (.cells #[.pointer (some ⟨p, 0, none⟩), .int .u64 0, .int .i64 0, .int .i64 0, .int .i64 0, .int .i64 0] 83)) 30 (.pointer (some ⟨w.heap.size, 0, none⟩))
    rw [World.size_alloc] at h
    exact h)
  generalize (w.alloc (.cells #[.pointer (some ⟨p, 0, none⟩), .int .u64 0, .int .i64 0, .int .i64 0, .int .i64 0, .int .i64 0] 83)).alloc (.cells #[.pointer (some ⟨w.heap.size, 0, none⟩)] 30) = wa at H0 ⊢
  rw [hlp] at H0 ⊢
  have HLP := Lib.hid hlp
  have hCH := choose_any (w := wa) (lp := lp) (p := p) (D := D) (g := LG.zero) (HH.out.1.below (by rw [hlp]; exact H0.out.2.2)) (by have := HH.out.1.lt; omega) H0.out.1 ((HH.out.2.1.more (L' := fun k => k = lp) (fun g hg => .inr (by omega))).below (by rw [hlp]; exact H0.out.2.2)) HH.out.2.2.1 HH.out.2.2.2.2.2.2.1
  have HCH := Lib.hid hCH
  clear hCH hlp
  refine HCH.out.mono ?_
  rintro e w2 ⟨rfl, hr2, hk2⟩
  have H2 : Hid (Row w2 lp 83 ((LG.opened D).cells p) ∧ Below lp w w2) := Lib.hid ⟨hr2, H0.out.2.2.trans (hk2.below (by have := H0.out.2.2.size; have := HLP.out; omega) (fun k hk => by omega))⟩
  have hX2 : Boxed w2 (lp + 1) 30 (.pointer (some ⟨lp, 0, none⟩)) := (hk2.block (lp + 1) H0.out.2.1.lt (by omega)).trans H0.out.2.1
  have hx2 := hX2.cell
  have HX2 := Lib.hid hX2
  clear hr2 hk2 hX2 HCH
  go_wp2_with fail
  obtain ⟨bs, hbs⟩ : ∃ bs, (LG.opened D).bytes D = bs := ⟨_, rfl⟩
  have hBY := bytes_any H2.out.1 (HH.out.2.1.below (by rw [HLP.out]; exact H2.out.2)) HH.out.2.2.1 HH.out.2.2.2.2.2.2.2.half
  rw [hbs] at hBY
  refine hBY.mono ?_
  rintro e w3 ⟨rfl, hb3⟩
  have H3 : Hid (Row w3 lp 83 ((LG.opened D).cells p) ∧ Boxed w3 (lp + 1) 30 (.pointer (some ⟨lp, 0, none⟩)) ∧ Below lp w w3) := Lib.hid ⟨H2.out.1.below hb3 H2.out.1.lt, (hb3.block _ HX2.out.lt).trans HX2.out, H2.out.2.trans (hb3.mono (by have := H2.out.2.size; have := HLP.out; omega))⟩
  have HBS := Lib.hid hbs
  clear hBY hb3 hx2 H2 HX2 H0 hbs
  go_wp2_with fail
  refine ((callsIn_wide (n := 0)).1 (Frames_in 0 (tx bs) _)).mono ?_
  rintro e w4 ⟨rfl, rfl⟩
  go_wp2_with fail
  obtain ⟨s3, hs3⟩ : ∃ s, w3.heap.size = s := ⟨_, rfl⟩
  have H5 : Hid ((Row ((w3.alloc (.cells #[.slice none 0 0] 31)).alloc (.cells #[.string (tx bs)] 9)) lp 83 ((LG.opened D).cells p) ∧ Boxed ((w3.alloc (.cells #[.slice none 0 0] 31)).alloc (.cells #[.string (tx bs)] 9)) (lp + 1) 30 (.pointer (some ⟨lp, 0, none⟩))) ∧ (Boxed ((w3.alloc (.cells #[.slice none 0 0] 31)).alloc (.cells #[.string (tx bs)] 9)) s3 31 (.slice none 0 0) ∧ Boxed ((w3.alloc (.cells #[.slice none 0 0] 31)).alloc (.cells #[.string (tx bs)] 9)) (s3 + 1) 9 (.string (tx bs))) ∧ Below lp w ((w3.alloc (.cells #[.slice none 0 0] 31)).alloc (.cells #[.string (tx bs)] 9)) ∧ lp + 1 < s3 ∧ ((w3.alloc (.cells #[.slice none 0 0] 31)).alloc (.cells #[.string (tx bs)] 9)).heap.size = s3 + 2) := Lib.hid (by
    subst hs3
    have hz := H3.out.2.2.size
    have hl := H3.out.2.1.lt
    have hB := Boxed.new (w3.alloc (.cells #[.slice none 0 0] 31)) 9 (.string (tx bs))
    rw [World.size_alloc] at hB
    exact ⟨⟨(H3.out.1.alloc _).alloc _, (H3.out.2.1.alloc _).alloc _⟩, ⟨(Boxed.new w3 _ _).alloc _, hB⟩, (H3.out.2.2.alloc (by omega) _).alloc (by rw [World.size_alloc]; omega) _, hl, by rw [World.size_alloc, World.size_alloc]⟩)
  rw [hs3]
  generalize ((w3.alloc (.cells #[.slice none 0 0] 31)).alloc (.cells #[.string (tx bs)] 9)) = w5 at H5 ⊢
  clear H3 hs3
  have hG5 : G w5 := HH.out.1.below (by rw [HLP.out]; exact H5.out.2.2.1)
  have hsl : s3 + 2 ≤ w5.heap.size := Nat.le_of_eq H5.out.2.2.2.2.symm
  have hsl2 : w5.heap.size ≤ s3 + 2 := Nat.le_of_eq H5.out.2.2.2.2
  have hlt5 := H5.out.2.2.2.1
  have hgl : 0 < lp := by have := HH.out.1.lt; have := HLP.out; omega
  have hbl : bs.length ≤ 1000000 := by
    obtain ⟨gl0, gm0, hv0, Dm0, hd0⟩ := id HH.out.2.1
    have hl := half_in HH.out.2.2.2.2.1 (LG.opened D).half (secs D - 1) HH.out.2.2.2.2.2.2.2.half (by have := (secs_le hd0).2; omega)
    have hb := bytesN_length D HH.out.2.2.2.2.1 HH.out.2.2.1 (2 + (LG.opened D).half * secs D) (secs D) (by have := (secs_le hd0).2; omega)
    have hs := HH.out.2.2.2.2.2.1
    rw [← HBS.out]
    unfold LG.bytes
    omega
  have hfl : (framesL bs).length ≤ bs.length := framesF_length _ _ _ _
  rw [← wpIn_wide (n := 6)]
  refine' wpIn_rangeFunc_ownG rfl (by omega) (gf := 64) (lb := #[.pointer (some ⟨s3 + 1, 0, none⟩)]) rfl trivial (enters_of Tryz.func64 (by kernel_rfl) rfl)
    (Frames_stops 5 (by omega) (s3 + 1) bs (by omega) w5 hG5 H5.out.2.1.2) keepsF_t (keepsF_b (by omega) (by omega)) (Below.refl _ _) (fun _ => rfl)
    (fun (pre : List (Nat × List UInt8)) W => (∃ v, Boxed W s3 31 v ∧ W.ownsRow (s3 + 2) 9 1 v pre.length (pre.map fun x => Value.string (tx x.2)) ∧ True) ∧ Row W lp 83 (({ LG.opened D with used := usedL (LG.opened D).used pre } : LG).cells p) ∧ Keeps (fun k => k < s3 + 2 ∧ k ≠ s3 ∧ k ≠ lp) w5 W)
    (fun _ _ _ => False)
    (OwnFrom.and (Own.from (holdsRow_own (s3 + 2) s3 31 9 1 (fun (pre : List (Nat × List UInt8)) => pre.length) (fun pre => pre.map fun x => Value.string (tx x.2)) (fun _ _ => True)) _) (OwnFrom.and (Own.from (own_row_f lp 83 (fun (pre : List (Nat × List UInt8)) => ({ LG.opened D with used := usedL (LG.opened D).used pre } : LG).cells p)) _) (ownFrom_keeps (Nat.le_refl _))))
    (fun _ _ _ _ _ hs _ _ => hs)
    ⟨⟨_, H5.out.2.1.1, World.ownsRow_nil _ _ _ _, trivial⟩, H5.out.1.1, Keeps.refl _ _⟩
    _ _ _ _ _
  case refine'_2 =>
    intro l x W K hK
    gi_wp2
    exact hK
  case refine'_5 =>
    rintro D c pre W _ _ h _
    exact h.elim
  case refine'_3 =>
    rintro l' pre x W ⟨⟨v, hv, hrow, _⟩, hr, hk⟩ hlt
    have hc := hv.cell
    have hsz := hk.size
    have hX : Boxed W (lp + 1) 30 (.pointer (some ⟨lp, 0, none⟩)) := (hk.block (lp + 1) (by omega) ⟨by omega, by omega, by omega⟩).trans H5.out.1.2
    have HL := Lib.hid (And.intro hr (And.intro hk hX))
    clear hr hk hX
    gi_wp2_with (gi_at_builtin; refine wpListIn_append_own _ rfl _ _ 31 rfl (s3 + 2) 9 i0 (.string ⟨#[]⟩) 1 16 Tryz.underlying31 hi hz0 hz1 hz2 rfl (by decide) _ _ _ rfl (hrow.alloc _) ⟨W.heap.size, 0, none⟩ 1 1 [.string (tx x.2)] rfl rfl (cell_one_new _ _ _) (by simp [Value.oneCell']) (by unfold maxLen; omega) (by omega) (by simp; omega) ?_; intro v' w1 hown' hgrow _; obtain ⟨g', cap', rfl⟩ := ownsRow_succ hown'; obtain ⟨hv1, hv2, hr2, hk2, hb2⟩ := box_append (L := fun k => k < s3 + 2 ∧ k ≠ s3) hv (by decide) hrow hown' hgrow (by omega) (fun k h => h.1); have hc1 := hv1.cell; have hf1 := hv1.frozen; have hXc := (show Boxed _ (lp + 1) 30 (.pointer (some ⟨lp, 0, none⟩)) from (hb2.block (lp + 1) (by omega) ⟨by omega, by omega⟩).trans HL.out.2.2).cell; have hR6 : Row _ lp 83 _ := (hb2.block lp (by omega) ⟨by omega, by omega⟩).trans HL.out.1; have hf6 := hR6.frozen 4; have HR6 := Lib.hid hR6; clear hR6; have hR1 : Row w1 lp 83 _ := (hgrow.block lp (HL.out.1.alloc _).lt (fun e => by have := (hrow.lt lp e.symm).1; omega)).trans (HL.out.1.alloc _); have hc6 := hR1.cell 4; simp only [LG.cells, List.getElem?_cons_zero, List.getElem?_cons_succ] at hc6; clear hR1)
    have hk2 := Lib.hid hk2
    have hXY := Lib.hid hown'
    generalize hv'e : Value.slice (some ⟨g', 0, none⟩) (pre.length + 1) cap' = v' at *
    have hfar : ∀ k, k ≠ lp → ((w1.setCell ⟨s3, 0, none⟩ v').setCell ⟨lp, 4, none⟩ (.int .i64 (x.1 : Nat))).heap[k]? = (w1.setCell ⟨s3, 0, none⟩ v').heap[k]? := fun k h => Below.heap_setCell _ ⟨lp, 4, none⟩ _ k h
    have hgr : (w1.setCell ⟨s3, 0, none⟩ v').grownBy ((w1.setCell ⟨s3, 0, none⟩ v').setCell ⟨lp, 4, none⟩ (.int .i64 (x.1 : Nat))) (some lp) := ⟨rfl, rfl, rfl, by simp [World.setCell], fun k _ hk => hfar k (fun e => hk (by rw [e]))⟩
    have hg2 : 0 < W.heap.size := by omega
    refine ⟨(hk2.out.trans (KeepsOthers.setCell _ _ _)).from _, ⟨(hfar (s3 + 1) (by omega)).trans (hb2.block (s3 + 1) (by omega) ⟨by omega, by omega⟩), (hfar 0 (by omega)).trans (hb2.block 0 hg2 ⟨by omega, by omega⟩)⟩, ⟨v', (hfar s3 (by omega)).trans hv2, ?_⟩, ?_, (HL.out.2.1.trans (hb2.mono (fun k h => ⟨h.1, h.2.1⟩))).setCell (p := ⟨lp, 4, none⟩) (.inl (fun h => h.2.2 rfl)) _⟩
    · have h := hr2.kept hgr (.inr (fun e => by have := (hr2.lt lp e).1; omega))
      rw [List.length_append, List.map_append]
      exact h
    · have h := HR6.out.set 4 (.int .i64 (x.1 : Nat))
      rw [usedL_snoc]
      exact h
  case refine'_4 =>
    rintro D' ys W hD rfl ⟨⟨v, hv, hrow, _⟩, hr, hk⟩ hK
    have hsz := hk.size
    have hX : Boxed W (lp + 1) 30 (.pointer (some ⟨lp, 0, none⟩)) := (hk.block (lp + 1) (by omega) ⟨by omega, by omega, by omega⟩).trans H5.out.1.2
    obtain ⟨m, hm⟩ : ∃ m, (framesL bs).length = m := ⟨_, rfl⟩
    have hopen : LG.openG D = { LG.opened D with used := usedL (LG.opened D).used (framesL bs), count := m } := by unfold LG.openG LG.opentexts; rw [HBS.out, hm]
    rw [hm] at hrow
    obtain ⟨ao, cap, rfl⟩ : ∃ ao cap, v = .slice ao m cap := by
      rcases hrow.2 with ⟨rfl, h0⟩ | ⟨g, cap, cur, rfl, _⟩
      · exact ⟨none, 0, by rw [h0]⟩
      · exact ⟨_, cap, rfl⟩
    have hfar : ∀ k, k ≠ lp → (W.setCell ⟨lp, 3, none⟩ (.int .i64 (m : Nat))).heap[k]? = W.heap[k]? := fun k h => Below.heap_setCell _ ⟨lp, 3, none⟩ _ k h
    have hgr : W.grownBy (W.setCell ⟨lp, 3, none⟩ (.int .i64 (m : Nat))) (some lp) := ⟨rfl, rfl, rfl, by simp [World.setCell], fun k _ hk => hfar k (fun e => hk (by rw [e]))⟩
    have HF : Hid (Row (W.setCell ⟨lp, 3, none⟩ (.int .i64 (m : Nat))) lp 83 ((LG.openG D).cells p) ∧ Boxed (W.setCell ⟨lp, 3, none⟩ (.int .i64 (m : Nat))) (lp + 1) 30 (.pointer (some ⟨lp, 0, none⟩)) ∧ Boxed (W.setCell ⟨lp, 3, none⟩ (.int .i64 (m : Nat))) s3 31 (.slice ao m cap) ∧
        (W.setCell ⟨lp, 3, none⟩ (.int .i64 (m : Nat))).ownsRow (s3 + 2) 9 1 (.slice ao m cap) m ((framesL bs).map fun x => Value.string (tx x.2)) ∧ Below lp w (W.setCell ⟨lp, 3, none⟩ (.int .i64 (m : Nat))) ∧ (W.setCell ⟨lp, 3, none⟩ (.int .i64 (m : Nat))).heap[D']? = some (.deferred (some []))) := Lib.hid (by
      refine ⟨?_, (hfar _ (by omega)).trans hX, (hfar _ (by omega)).trans hv, hrow.kept hgr (.inr (fun e => by have := (hrow.lt lp e).1; omega)), ?_, (hfar D' (by omega)).trans hK⟩
      · have h := hr.set 3 (.int .i64 (m : Nat))
        rw [hopen]
        exact h
      · exact (H5.out.2.2.1.trans (hk.below (by omega) (fun k h => ⟨by omega, by omega, by omega⟩))).setCell (p := ⟨lp, 3, none⟩) (Nat.le_refl _) _)
    have hc := hv.cell
    have hxc := hX.cell
    have hc3 := hr.cell 3
    have hf3 := hr.frozen 3
    simp only [LG.cells, List.getElem?_cons_zero, List.getElem?_cons_succ] at hc3
    have HU : Hid ((Lib.trimRightB bs 0).length ≤ (LG.openG D).used) := Lib.hid (by rw [← HBS.out]; exact HH.out.2.2.2.1)
    have HBL := Lib.hid (And.intro hbl (And.intro hm (And.intro hD hlt5)))
    clear hv hX hr hk hK hrow hm hopen hfar hgr hbl hfl hD hsl hsl2 hsz hgl hG5 hlt5
    go_wp2_with fail
    refine (wipe_any HF.out.1 bs (by have := HBL.out.1; omega) HU.out).mono ?_
    rintro e w7 ⟨rfl, rfl⟩
    have hc6 := HF.out.2.2.1.cell
    have hxc6 := HF.out.2.1.cell
    clear hc hxc hc3 hf3
    generalize W.setCell ⟨lp, 3, none⟩ (.int .i64 (m : Nat)) = w8 at HF hc6 hxc6 ⊢
    go_wp2_with fail
    have H18 : Hid (∀ W, SB w8 W → W.cell? ⟨lp + 1, 0, none⟩ = some (.pointer (some ⟨lp, 0, none⟩)) ∧ W.cell? ⟨s3, 0, none⟩ = some (.slice ao m cap)) := Lib.hid fun W h =>
      ⟨Boxed.cell (t := 30) ((h.block _ HF.out.2.1.lt).trans HF.out.2.1), Boxed.cell (t := 31) ((h.block _ HF.out.2.2.1.lt).trans HF.out.2.2.1)⟩
    clear hc6 hxc6
    refine region_quiet_lit (fun W => SB w8 W) (by kernel_rfl) (by kernel_rfl) ⟨rfl, rfl, rfl, Nat.le_refl _, fun _ _ => rfl⟩ ?_
    refine wpQ_yields (.pointer (some ⟨lp, 0, none⟩)) (Or.inl ⟨by rfl, fun W' hS => ?yo1⟩) ?_
    case yo1 =>
      have q0 := (H18.out W' hS).1
      go_simp
    try simp only [Act.put, List.setIfInBounds_toArray, List.set_cons_zero, List.set_cons_succ]
    refine wpQ_yields (.slice ao m cap) (Or.inl ⟨by rfl, fun W' hS => ?yo2⟩) ?_
    case yo2 =>
      have q0 := (H18.out W' hS).2
      go_simp
    try simp only [Act.put, List.setIfInBounds_toArray, List.set_cons_zero, List.set_cons_succ]
    refine wpQ_yields (.pointer (some ⟨lp, 0, none⟩)) (Or.inl ⟨by rfl, fun W' hS => ?yo3⟩) ?_
    case yo3 =>
      go_simp
    try simp only [Act.put, List.setIfInBounds_toArray, List.set_cons_zero, List.set_cons_succ]
    refine wpQ_yields (.slice ao m cap) (Or.inl ⟨by rfl, fun W' hS => ?yo4⟩) ?_
    case yo4 =>
      go_simp
    try simp only [Act.put, List.setIfInBounds_toArray, List.set_cons_zero, List.set_cons_succ]
    refine wpQ_yields (.int .i64 0) (Or.inl ⟨by rfl, fun W' hS => ?yo5⟩) ?_
    case yo5 =>
      go_simp
    try simp only [Act.put, List.setIfInBounds_toArray, List.set_cons_zero, List.set_cons_succ]
    refine wpQuiet_nil ?_
    intro wf hwf
    have HWF := Lib.hid hwf
    have hK9 : wf.heap[D']? = some (.deferred (some [])) := (hwf.block D' (Array.getElem?_eq_some_iff.1 HF.out.2.2.2.2.2).1).trans HF.out.2.2.2.2.2
    clear hwf
    go_wp2_with fail
    have hDD : s3 + 2 ≤ D' := by have := HBL.out.2.2.1; have := H5.out.2.2.2.2; omega
    have hlt5 := HBL.out.2.2.2
    have hoth : ∀ k, k ≠ D' → (wf.putObj D' (.deferred none)).heap[k]? = wf.heap[k]? := fun k h => World.putObj_heap_other h
    have hB9 : Below w.heap.size w (wf.putObj D' (.deferred none)) := by
      have h8 : Below w.heap.size w w8 := by rw [HLP.out]; exact HF.out.2.2.2.2.1
      exact (h8.trans (HWF.out.mono h8.size)).trans (belowK_b (w := w) (Nat.le_refl _) _ D' _ _ (by have := HLP.out; omega) hK9 rfl rfl)
    refine ⟨by simp, .inl ⟨_, _, rfl, run_takeDeferred hK9, ?_⟩⟩
    refine ⟨_, results_tmp3 rfl _ _ _, ⟨⟨lp, _, rfl, Nat.le_of_eq HLP.out, ?_, ?_⟩, hB9⟩⟩
    · exact (hoth lp (by omega)).trans ((HWF.out.block lp HF.out.1.lt).trans HF.out.1)
    · have hown := HF.out.2.2.2.1
      have hD9 : (LG.opentexts D) = framesL bs := by unfold LG.opentexts; rw [HBS.out]
      rw [hD9, HBL.out.2.1]
      refine ⟨hown.1, ?_⟩
      rcases hown.2 with h | ⟨g, cap', cur, h1, h2, h3, h4⟩
      · exact .inl h
      · refine .inr ⟨g, cap', cur, h1, by have := HLP.out; omega, (hoth g (fun e => ?_)).trans ((HWF.out.block g (Array.getElem?_eq_some_iff.1 h3).1).trans h3), h4⟩
        subst e
        rw [HF.out.2.2.2.2.2] at h3
        cases h3
end
end Go.Proofs.YtiaaeniopjpfpaaGreatDoor

namespace Go.Proofs.YtiaaeniopjpfpaaGreatDoor
open Go Go.RowKit Go.Maps
set_option linter.unusedVariables false
set_option linter.unusedSimpArgs false

section
variable {L : Nat → Prop} {w : World} {p : Nat} {D : DS}
set_option maxRecDepth 20000 in
set_option maxHeartbeats 4000000 in
theorem stOpen_new (hG : G w) (hd : DiskIs L w p D) (hdn : D.down = false) (hw : (Lib.trimRightB ((LG.opened D).bytes D) 0).length ≤ (LG.openG D).used) (ht : LG.opentexts D = []) :
    Calls Tryz.prog 30 #[.pointer (some ⟨p, 0, none⟩)] w fun e w' => ∃ sp lp mp, e = .returned (.tuple #[.pointer (some ⟨sp, 0, none⟩), .int .i64 0]) ∧ (w.heap.size ≤ lp ∧ w.heap.size ≤ sp ∧ w.heap.size ≤ mp ∧ sp ≠ lp ∧ mp ≠ lp ∧ mp ≠ sp) ∧
      StRow w' sp lp mp ∧ Row w' lp 83 ((LG.openG D).cells p) ∧ SMap w' mp 0 (.map []) ∧ Below w.heap.size w w' := by
  have HO := Lib.hid (Open_any hG hd hdn hw)
  rw [ht] at HO
  clear hG hd hdn hw ht
  have hmm := @run_makeMap Tryz.prog
  go_enter Tryz.func30, Tryz.ntmps30
  go_wp2_with fail
  refine HO.out.mono ?_
  rintro e w5 ⟨⟨lp, v, rfl, hlp, hr5, hown⟩, hb5⟩
  obtain ⟨ao, cap, rfl⟩ : ∃ ao cap, v = .slice ao 0 cap := by
    rcases hown.2 with ⟨rfl, h0⟩ | ⟨g, cap, cur, rfl, _⟩
    · exact ⟨none, 0, rfl⟩
    · exact ⟨_, cap, rfl⟩
  have H5 := Lib.hid (And.intro hlp (And.intro hr5 hb5))
  clear hlp hr5 hb5 hown
  go_wp2_with fail
  obtain ⟨s5, hs5⟩ : ∃ s, w5.heap.size = s := ⟨_, rfl⟩
  have HF : Hid (StRow ((w5.alloc (.map #[] 0)).alloc (.cells #[.pointer (some ⟨lp, 0, none⟩), .map (some s5)] 111)) (s5 + 1) lp s5 ∧ Row ((w5.alloc (.map #[] 0)).alloc (.cells #[.pointer (some ⟨lp, 0, none⟩), .map (some s5)] 111)) lp 83 ((LG.openG D).cells p) ∧
      SMap ((w5.alloc (.map #[] 0)).alloc (.cells #[.pointer (some ⟨lp, 0, none⟩), .map (some s5)] 111)) s5 0 (.map []) ∧ Below w.heap.size w ((w5.alloc (.map #[] 0)).alloc (.cells #[.pointer (some ⟨lp, 0, none⟩), .map (some s5)] 111)) ∧ w.heap.size ≤ lp ∧ lp < s5 ∧ w.heap.size ≤ s5) := Lib.hid (by
    have hz := H5.out.2.2.size
    have hl := H5.out.2.1.lt
    rw [hs5] at hz hl
    have r := Row.new (w5.alloc (.map #[] 0)) 111 [.pointer (some ⟨lp, 0, none⟩), .map (some s5)]
    rw [World.size_alloc, hs5] at r
    have m0 := World.ownsMap_made w5 Tryz.prog 9 chElem
    rw [hs5] at m0
    exact ⟨r, (H5.out.2.1.alloc _).alloc _, m0.alloc _, (H5.out.2.2.alloc (by omega) _).alloc (by rw [World.size_alloc]; omega) _, H5.out.1, hl, hz⟩)
  rw [hs5]
  generalize ((w5.alloc (.map #[] 0)).alloc (.cells #[.pointer (some ⟨lp, 0, none⟩), .map (some s5)] 111)) = w6 at HF ⊢
  clear H5 hs5
  go_loopw [28] (fun i wr => i = .int .i64 0 ∧ wr = w6) (fun _ _ => 0)
  case atStart => exact ⟨rfl, rfl⟩
  case round =>
    obtain ⟨rfl, rfl⟩ := hrel
    go_wp2_with fail
    go_ret2
    exact ⟨s5 + 1, lp, s5, rfl, ⟨HF.out.2.2.2.2.1, by have := HF.out.2.2.2.2.2.2; omega, HF.out.2.2.2.2.2.2, by have := HF.out.2.2.2.2.2.1; omega, by have := HF.out.2.2.2.2.2.1; omega, by omega⟩, HF.out.1, HF.out.2.1, HF.out.2.2.1, HF.out.2.2.2.1⟩
end
end Go.Proofs.YtiaaeniopjpfpaaGreatDoor

namespace Go.Proofs.YtiaaeniopjpfpaaGreatDoor
open Go Go.RowKit Go.Maps
set_option linter.unusedVariables false
set_option linter.unusedSimpArgs false

theorem headL_take4 (n : Nat) (t : List UInt8) : (headL n t).take 4 = putL n 4 := by
  unfold headL sealL seal1
  rw [List.append_assoc, List.append_assoc, List.append_assoc, List.take_append_of_le_length (by rw [putL_length]; exact Nat.le_refl _), List.take_of_length_le (by rw [putL_length]; exact Nat.le_refl _)]
theorem framed_zeros (n k : Nat) (hn : putL n 4 ≠ [0, 0, 0, 0]) : framedL n (List.replicate k 0) = none := by
  unfold framedL
  by_cases hk : k < 28
  · rw [if_pos (by simpa using hk)]
  · rw [if_neg (by simpa using hk)]
    split
    · rfl
    · rw [if_neg]
      intro h
      have h4 := congrArg (List.take 4) h
      rw [headL_take4, List.take_take, List.take_replicate, show min (min 4 28) k = 4 by omega] at h4
      exact hn h4.symm
theorem trim_zeros (l : List UInt8) (n : Nat) : (Lib.trimRightB (l ++ List.replicate n 0) 0).length ≤ l.length := by
  unfold Lib.trimRightB
  rw [List.reverse_append, List.reverse_replicate, List.length_reverse]
  induction n with
  | zero =>
    have h := (List.dropWhile_sublist (fun x : UInt8 => x == 0) (l := l.reverse)).length_le
    simpa using h
  | succ n ih =>
    rw [List.replicate_succ, List.cons_append, List.dropWhile_cons_of_pos (by rfl)]
    exact ih
theorem markB_head (m h : Nat) : (markB m h).head? = some 67 := by
  unfold markB markL sealL seal1
  simp
theorem marked_zeros : markedL z128 = none := by
  have h : ∀ m k, z128 ≠ markB m k := fun m k e => by
    have h2 := congrArg List.head? e
    rw [markB_head] at h2
    cases h2
  unfold markedL
  rw [if_neg (h _ _), if_neg (h _ _)]
def hiL : List UInt8 := [104, 105]
def awkP : List UInt8 := pad128 (frameL 1 hiL)
theorem awkP_eq : awkP = frameL 1 hiL ++ List.replicate 98 0 := by
  have h : (frameL 1 hiL).length = 30 := by rw [frameL_length]; rfl
  unfold awkP pad128
  rw [h, List.take_of_length_le (by omega)]
def awkD2 : DS := ⟨[z128, z128, awkP] ++ List.replicate 17 z128, [], -1, 2, false⟩
theorem awk_synced (P : List UInt8) : (((newDS 20).written 2 P).synced, ((newDS 20).written 2 P).stepErr) = ((⟨[z128, z128, P] ++ List.replicate 17 z128, [], -1, 2, false⟩ : DS), (0 : Int)) := by
  kernel_rfl
theorem new_read2 : (newDS 20).read 2 = z128 := by kernel_rfl
theorem awk_add : LG.zero.add (newDS 20) hiL = (({ LG.zero with count := 1, used := 30 }, awkD2), 0) := by
  have hl : (frameL 1 hiL).length = 30 := by rw [frameL_length]; rfl
  have hp : LG.zero.putR (newDS 20) (frameL 1 hiL) = (awkD2, 0) := by
    unfold LG.putR
    rw [if_neg (by decide)]
    show putG 200 (newDS 20) 2 (((newDS 20).read 2).take 0 ++ frameL 1 hiL) = _
    rw [List.take_zero, List.nil_append, putG, if_neg (fun h => by rw [h] at hl; cases hl), if_neg (by decide), List.drop_eq_nil_of_le (by omega), putG_nil]
    exact awk_synced awkP
  unfold LG.add
  rw [if_neg (by decide), if_neg (by decide), if_neg (by decide)]
  rw [show LG.zero.count + 1 = 1 from rfl, hp]
  rfl
theorem opened_zeros {D : DS} (h0 : D.read 0 = z128) (h1 : D.read 1 = z128) : LG.opened D = LG.zero := by
  show (LG.zero.pick (D.read ((0 : Nat) : Int))).pick (D.read ((1 : Nat) : Int)) = _
  rw [show D.read ((0 : Nat) : Int) = z128 from h0, show D.read ((1 : Nat) : Int) = z128 from h1]
  unfold LG.pick
  rw [marked_zeros]
theorem opened_new : LG.opened (newDS 20) = LG.zero := opened_zeros (by kernel_rfl) (by kernel_rfl)
theorem bytes_new : LG.zero.bytes (newDS 20) = List.replicate 1152 0 := by kernel_rfl
theorem frames_zeros (k : Nat) : framesL (List.replicate k 0) = [] := framesF_none (framed_zeros 1 k (by decide))
theorem texts_new : LG.opentexts (newDS 20) = [] := by unfold LG.opentexts; rw [opened_new, bytes_new, frames_zeros]
theorem openG_new : LG.openG (newDS 20) = LG.zero := by unfold LG.openG; rw [texts_new, opened_new]; rfl
theorem trim_new : (Lib.trimRightB ((LG.opened (newDS 20)).bytes (newDS 20)) 0).length ≤ (LG.openG (newDS 20)).used := by
  rw [openG_new, opened_new, bytes_new]
  exact trim_zeros [] 1152
theorem read_awk (P : List UInt8) : bytesN (⟨[z128, z128, P] ++ List.replicate 17 z128, [], -1, 2, false⟩ : DS) 2 9 = P ++ List.replicate 1024 0 := by
  have h : ∀ j : Nat, j < 8 → (⟨[z128, z128, P] ++ List.replicate 17 z128, [], -1, 2, false⟩ : DS).read ((2 + (j + 1) : Nat) : Int) = List.replicate 128 0 := fun j hj => by
    match j, hj with
    | 0, _ => rfl
    | 1, _ => rfl
    | 2, _ => rfl
    | 3, _ => rfl
    | 4, _ => rfl
    | 5, _ => rfl
    | 6, _ => rfl
    | 7, _ => rfl
  have h0 : (⟨[z128, z128, P] ++ List.replicate 17 z128, [], -1, 2, false⟩ : DS).read ((2 + 0 : Nat) : Int) = P := rfl
  unfold bytesN bytesN bytesN bytesN bytesN bytesN bytesN bytesN bytesN bytesN
  rw [h0, h 0 (by omega), h 1 (by omega), h 2 (by omega), h 3 (by omega), h 4 (by omega), h 5 (by omega), h 6 (by omega), h 7 (by omega)]
  simp only [List.nil_append, List.append_assoc, List.replicate_append_replicate]
theorem opened_awk : LG.opened awkD2 = LG.zero := opened_zeros rfl rfl
theorem bytes_awk : LG.zero.bytes awkD2 = frameL 1 hiL ++ List.replicate 1122 0 := by
  have h : LG.zero.bytes awkD2 = bytesN awkD2 2 9 := rfl
  rw [h]
  unfold awkD2
  rw [read_awk, awkP_eq, List.append_assoc, List.replicate_append_replicate]
theorem framed_frame (n : Nat) (t z : List UInt8) (ht : t.length < 4294967296) : framedL n (frameL n t ++ z) = some t := by
  have hl : (headL n t).length = 28 := headL_length n t
  have hd : (frameL n t ++ z).drop 28 = t ++ z := by
    unfold frameL
    rw [List.append_assoc, List.drop_append_of_le_length (by omega), List.drop_of_length_le (by omega), List.nil_append]
  have hk : (frameL n t ++ z).take 28 = headL n t := by
    unfold frameL
    rw [List.append_assoc, List.take_append_of_le_length (by omega), List.take_of_length_le (by omega)]
  have hs : getL (((frameL n t ++ z).drop 4).take 4) = t.length := by
    have e : ((frameL n t ++ z).drop 4).take 4 = putL t.length 4 := by
      unfold frameL headL sealL seal1
      simp only [List.append_assoc]
      rw [List.drop_append_of_le_length (by rw [putL_length]; exact Nat.le_refl _), List.drop_of_length_le (by rw [putL_length]; exact Nat.le_refl _), List.nil_append, List.take_append_of_le_length (by rw [putL_length]; exact Nat.le_refl _), List.take_of_length_le (by rw [putL_length]; exact Nat.le_refl _)]
    rw [e, getL_putL]
    exact Nat.mod_eq_of_lt (by simpa using ht)
  have hlen : ¬ (frameL n t ++ z).length < 28 := by rw [List.length_append, frameL_length]; omega
  unfold framedL
  rw [if_neg hlen, hs, hd, hk, if_neg (by rw [List.length_append]; omega), List.take_append_of_le_length (Nat.le_refl _), List.take_of_length_le (Nat.le_refl _), if_pos rfl]
theorem texts_awk : LG.opentexts awkD2 = [(30, hiL)] := by
  unfold LG.opentexts
  rw [opened_awk, bytes_awk]
  have hl : (frameL 1 hiL).length = 30 := by rw [frameL_length]; rfl
  unfold framesL
  rw [List.length_append, hl, List.length_replicate]
  rw [show 30 + 1122 = 1151 + 1 from rfl, framesF_some (framed_frame 1 hiL _ (by decide))]
  rw [show hiL.length + 28 = 30 from rfl, List.drop_append_of_le_length (by omega), List.drop_of_length_le (by omega), List.nil_append, framesF_none (framed_zeros 2 1122 (by decide))]
theorem openG_awk : LG.openG awkD2 = { LG.zero with count := 1, used := 30 } := by unfold LG.openG; rw [texts_awk, opened_awk]; rfl
theorem trim_awk : (Lib.trimRightB ((LG.opened awkD2).bytes awkD2) 0).length ≤ (LG.openG awkD2).used := by
  have hl : (frameL 1 hiL).length = 30 := by rw [frameL_length]; rfl
  rw [openG_awk, opened_awk, bytes_awk]
  have h := trim_zeros (frameL 1 hiL) 1122
  rw [hl] at h
  exact h
end Go.Proofs.YtiaaeniopjpfpaaGreatDoor

namespace Go.Proofs.YtiaaeniopjpfpaaGreatDoor
open Go.RowKit
set_option linter.unusedVariables false

def exA : ByteArray := ⟨#[49, 50, 51, 52]⟩
def exB : ByteArray := ⟨#[53, 54, 55, 56, 57]⟩
theorem ex_sum : ((crcL (cat [exA, exB]) : Nat) : Int) = 3421780262 := by
  have h : crcL (cat [exA, exB]) = 3421780262 := crc_example
  rw [h]; rfl
theorem ex_put : ByteArray.mk (putL 258 (szOf 2)).toArray = ⟨#[1, 2]⟩ := by decide +kernel

set_option maxRecDepth 3000 in
set_option maxHeartbeats 400000 in
theorem awake_any (w : World) :
    Calls Tryz.prog 78 #[] w fun e w' => e = .returned (.bool true) ∧ Below w.heap.size w w' := by
  have hcells : ∀ i, i < 2 → (w.alloc (.cells #[.string ⟨#[49, 50, 51, 52]⟩, .string ⟨#[53, 54, 55, 56, 57]⟩] 9)).cell? ⟨w.heap.size, i, none⟩ = some (.string ([exA, exB].getD i ByteArray.empty)) := by
    intro i hi
    have h := (Row.new w 9 [.string ⟨#[49, 50, 51, 52]⟩, .string ⟨#[53, 54, 55, 56, 57]⟩]).cell i
    rw [h]
    rcases (by omega : i = 0 ∨ i = 1) with rfl | rfl <;> rfl
  have HC := Lib.hid hcells
  clear hcells
  have hb0 : Below w.heap.size w (w.alloc (.cells #[.string ⟨#[49, 50, 51, 52]⟩, .string ⟨#[53, 54, 55, 56, 57]⟩] 9)) := (Below.refl _ _).alloc (Nat.le_refl _) _
  go_enter Tryz.func78, Tryz.ntmps78
  go_wp2_with fail
  refine (CRC_any [exA, exB] w.heap.size 2 2 _ rfl (by omega) (by simp) (fun i hi => by rcases (by omega : i = 0 ∨ i = 1) with rfl | rfl <;> (show (_ : Nat) ≤ _; decide)) HC.out).mono ?_
  rintro e w1 ⟨rfl, hb1⟩
  have hbb := hb0.trans (hb1.mono (by simp))
  rw [ex_sum]
  clear hb0 hb1 HC
  go_wp2_with fail
  refine (Put_any 258 2 _ (by omega)).mono ?_
  rintro e w2 ⟨rfl, hb2⟩
  have hb3 := hbb.trans (hb2.mono hbb.size)
  rw [ex_put]
  clear hbb hb2
  go_wp2
  go_ret
  exact ⟨rfl, hb3⟩
end Go.Proofs.YtiaaeniopjpfpaaGreatDoor

namespace Go.Proofs.YtiaaeniopjpfpaaGreatDoor
open Go.RowKit
set_option linter.unusedVariables false

theorem Awake1_any (w : World) :
    Calls Tryz.prog 39 #[] w fun e w' => e = .returned (.bool true) ∧ Below w.heap.size w w' := by
  go_enter Tryz.func39, Tryz.ntmps39
  go_wp2_with (go_at_call 78; refine (awake_any _).mono ?_; rintro e wa ⟨rfl, hb⟩)
  go_ret
  exact ⟨rfl, hb⟩

theorem abc_prefix : Lib.hasPrefix (shaL [97, 98, 99]) [186, 120, 22, 191] = true := by
  have h := abc_example
  obtain ⟨a, b, c, d, t, e⟩ : ∃ a b c d t, shaL [97, 98, 99] = a :: b :: c :: d :: t := by
    have h2 := shaL_length [97, 98, 99]
    match hq : shaL [97, 98, 99] with
    | [] => rw [hq] at h2; cases h2
    | [_] => rw [hq] at h2; cases h2
    | [_, _] => rw [hq] at h2; cases h2
    | [_, _, _] => rw [hq] at h2; cases h2
    | a :: b :: c :: d :: t => exact ⟨a, b, c, d, t, rfl⟩
  rw [e] at h ⊢
  simp only [List.take_succ_cons, List.take_zero, List.cons.injEq, and_true] at h
  obtain ⟨rfl, rfl, rfl, rfl⟩ := h
  simp [Lib.hasPrefix]

set_option maxRecDepth 3000 in
set_option maxHeartbeats 400000 in
theorem awake5_any (w : World) (hG : G w) :
    Calls Tryz.prog 79 #[] w fun e w' => e = .returned (.bool true) ∧ Below w.heap.size w w' := by
  obtain ⟨L, hL⟩ : ∃ L, shaL [97, 98, 99] = L := ⟨_, rfl⟩
  obtain ⟨L0, hL0⟩ : ∃ L, shaL [] = L := ⟨_, rfl⟩
  have hp : Lib.hasPrefix L [186, 120, 22, 191] = true := by rw [← hL]; exact abc_prefix
  have h32 : (ByteArray.mk L0.toArray).size = 32 := by show L0.toArray.size = 32; rw [List.size_toArray, ← hL0, shaL_length]
  have HT : Hid (∀ W : World, G W → Calls Tryz.prog 110 #[.slice (some ⟨W.heap.size, 0, none⟩) 2 2] (W.alloc (.cells #[.string ⟨#[97]⟩, .string ⟨#[98, 99]⟩] 9)) fun e w' => e = .returned (.string ⟨L.toArray⟩) ∧ Below W.heap.size W w') := Lib.hid fun W hg => by
    rw [← hL]
    have hb0 : Below W.heap.size W (W.alloc (.cells #[.string ⟨#[97]⟩, .string ⟨#[98, 99]⟩] 9)) := (Below.refl _ _).alloc (Nat.le_refl _) _
    refine (Text_any W.heap.size 0 2 [⟨#[97]⟩, ⟨#[98, 99]⟩] _ (hg.below hb0) (fun j x hx => ?_) (by simp) (by decide) (by decide) [97, 98, 99] rfl (by decide)).mono fun e w' h => ⟨h.1, hb0.trans (h.2.mono hb0.size)⟩
    have h := (Row.new W 9 [.string ⟨#[97]⟩, .string ⟨#[98, 99]⟩]).cell j
    rw [Nat.zero_add, h]
    match j, hx with
    | 0, hx => cases hx; rfl
    | 1, hx => cases hx; rfl
    | j + 2, hx => cases hx
  have HT0 : Hid (∀ W : World, G W → Calls Tryz.prog 110 #[.slice none 0 0] W fun e w' => e = .returned (.string ⟨L0.toArray⟩) ∧ Below W.heap.size W w') := Lib.hid fun W hg => by
    rw [← hL0]; exact Text_none none 0 W hg
  have HP : Hid (∀ W : World, Calls Tryz.prog 73 #[.string ⟨L.toArray⟩, .string ⟨#[186, 120, 22, 191]⟩] W fun e w' => e = .returned (.bool true) ∧ w' = W) := Lib.hid fun W => by
    have h := Tryz.strings_HasPrefix ⟨L.toArray⟩ ⟨#[186, 120, 22, 191]⟩ W
    rw [show Lib.hasPrefix (ByteArray.mk L.toArray).data.toList (ByteArray.mk #[186, 120, 22, 191]).data.toList = true from hp] at h
    exact h
  have HG := Lib.hid hG
  clear hL hL0 hp hG
  go_enter Tryz.func79, Tryz.ntmps79
  go_wp2_with fail
  refine (Awake1_any _).mono ?_
  rintro e w1 ⟨rfl, hb1⟩
  have hg1 := HG.out.below hb1
  go_wp2_with fail
  refine (HT.out _ hg1).mono ?_
  rintro e w2 ⟨rfl, hb2⟩
  have hb2' := hb1.trans (hb2.mono hb1.size)
  have hg2 := HG.out.below hb2'
  clear hb1 hb2 hg1
  go_wp2_with fail
  refine (HP.out _).mono ?_
  rintro e w3 ⟨rfl, rfl⟩
  go_wp2_with fail
  refine (HT0.out _ hg2).mono ?_
  rintro e w4 ⟨rfl, hb4⟩
  have hb4' := hb2'.trans (hb4.mono hb2'.size)
  clear hb2' hb4 hg2
  go_wp2_with fail
  go_ret
  exact ⟨rfl, hb4'⟩
theorem Awake5_any (w : World) (hG : G w) :
    Calls Tryz.prog 40 #[] w fun e w' => e = .returned (.bool true) ∧ Below w.heap.size w w' := by
  go_enter Tryz.func40, Tryz.ntmps40
  go_wp2_with (go_at_call 79; refine (awake5_any _ hG).mono ?_; rintro e wa ⟨rfl, hb⟩)
  go_ret
  exact ⟨rfl, hb⟩
end Go.Proofs.YtiaaeniopjpfpaaGreatDoor

namespace Go.Proofs.YtiaaeniopjpfpaaGreatDoor
open Go Go.RowKit Go.Maps
set_option linter.unusedVariables false
set_option linter.unusedSimpArgs false

theorem Awake11_any (w : World) :
    Calls Tryz.prog 41 #[] w fun e w' => e = .returned (.bool true) ∧ Below w.heap.size w w' := by
  go_enter Tryz.func41, Tryz.ntmps41
  go_wp2_with fail
  refine awake11_any.mono ?_
  rintro e w' ⟨rfl, hB⟩
  go_wp2_with fail
  go_ret
  exact ⟨rfl, hB⟩

set_option maxRecDepth 20000 in
set_option maxHeartbeats 2000000 in
theorem awake12_any (w : World) (hG : G w) :
    Calls Tryz.prog 8 #[] w fun e w' => e = .returned (.bool true) ∧ Below w.heap.size w w' := by
  have HN : Hid (∀ W, Calls Tryz.prog 28 #[.int .i64 0] W fun e w' => e = .returned (.int .i64 28) ∧ W = w') := Lib.hid fun W => Need_any 0 (by omega) W
  have HG := Lib.hid hG
  clear hG
  go_enter Tryz.func8, Tryz.ntmps8
  go_wp2_with fail
  refine (HN.out _).mono ?_
  rintro e w1 ⟨rfl, rfl⟩
  go_wp2_with fail
  refine (Awake1_any _).mono ?_
  rintro e w1 ⟨rfl, hb1⟩
  have HB1 := Lib.hid hb1
  clear hb1
  go_wp2_with fail
  refine (Awake5_any _ (HG.out.below HB1.out)).mono ?_
  rintro e w2 ⟨rfl, hb2⟩
  have HB2 := Lib.hid (HB1.out.trans (hb2.mono HB1.out.size))
  clear hb2
  go_wp2_with fail
  refine (Awake11_any _).mono ?_
  rintro e w3 ⟨rfl, hb3⟩
  have HB3 := Lib.hid (HB2.out.trans (hb3.mono HB2.out.size))
  clear hb3
  go_wp2_with fail
  refine (New_any 20 (by omega) (by omega) _).mono ?_
  rintro e w4 ⟨rfl, hD, hb4⟩
  have hd4 : DiskIs (fun k => k < w3.heap.size) w4 (w3.heap.size + 2) (newDS 20) := ⟨_, _, _, _, hD _ (fun k h => h)⟩
  obtain ⟨p, hp⟩ : ∃ p, w3.heap.size + 2 = p := ⟨_, rfl⟩
  rw [hp] at hd4 ⊢
  have hs3 := HB3.out.size
  have H4 : Hid (DiskIs (fun k => k < w.heap.size) w4 p (newDS 20) ∧ Below w.heap.size w w4) := Lib.hid ⟨hd4.less (fun k h => by omega), HB3.out.trans (hb4.mono hs3)⟩
  clear hD hb4 hd4 hp hs3
  go_wp2_with fail
  have hO := Open_any (HG.out.below H4.out.2) H4.out.1 rfl trim_new
  rw [texts_new, openG_new] at hO
  have hs4 := H4.out.2.size
  refine hO.mono ?_
  rintro e w5 ⟨⟨lp, v, rfl, hlp, hr5, hown⟩, hb5⟩
  obtain ⟨ao, cap, rfl⟩ : ∃ ao cap, v = .slice ao 0 cap := by
    rcases hown.2 with ⟨rfl, h0⟩ | ⟨g, cap, cur, rfl, _⟩
    · exact ⟨none, 0, rfl⟩
    · exact ⟨_, cap, rfl⟩
  have hB5 : Below w.heap.size w w5 := H4.out.2.trans (hb5.mono hs4)
  have hd5 : DiskIs (fun k => k < w.heap.size ∨ k = lp) w5 p (newDS 20) :=
    ((H4.out.1.more (L' := fun k => k < w.heap.size ∨ w4.heap.size ≤ k) (fun g hg => hg)).below hb5).less (fun k h => by rcases h with h | rfl; exact .inl h; exact .inr hlp)
  have hA := Add_any (L := fun k => k < w.heap.size ∨ k = lp) (HG.out.below hB5) (fun k h => by have := hr5.lt; have := hB5.size; rcases h with h | rfl <;> omega) (.inr rfl) hr5 hd5 (by decide) (by decide) (by decide) (by decide) (by decide) hiL rfl (by decide) (by decide)
  rw [awk_add] at hA
  have HA := Lib.hid (show Calls Tryz.prog 16 #[.pointer (some ⟨lp, 0, none⟩), .string ⟨#[104, 105]⟩] w5 _ from hA)
  have H5 := Lib.hid (And.intro hB5 (And.intro hlp hs4))
  clear hO hown hr5 hd5 hA hB5 hb5 hs4 hlp
  go_wp2_with fail
  refine HA.out.mono ?_
  rintro e w6 ⟨rfl, hr6, hd6, hk6⟩
  have H6 : Hid (DiskIs (fun k => k < w.heap.size ∨ k = lp) w6 p awkD2 ∧ Below w.heap.size w w6) := Lib.hid ⟨hd6, H5.out.1.trans (hk6.below H5.out.1.size (fun k h => ⟨.inl h, by have := H5.out.2; omega⟩))⟩
  clear hr6 hd6 hk6 HA
  go_wp2_with fail
  have hO := Open_any (HG.out.below H6.out.2) H6.out.1 rfl trim_awk
  rw [texts_awk, openG_awk] at hO
  refine hO.mono ?_
  rintro e w7 ⟨⟨lp2, v, rfl, hlp2, hr7, hown⟩, hb7⟩
  obtain ⟨g', cap', rfl, hc7⟩ : ∃ g cap, v = .slice (some ⟨g, 0, none⟩) 1 cap ∧ w7.cell? ⟨g, 0, none⟩ = some (.string ⟨#[104, 105]⟩) := by
    rcases hown.2 with ⟨_, h0⟩ | ⟨g, cap, cur, rfl, _, hg, _, _, _, ht⟩
    · cases h0
    · refine ⟨g, cap, rfl, ?_⟩
      have h := congrArg (·[0]?) ht
      simp only [List.map_cons, List.map_nil, List.length_cons, List.length_nil] at h
      simp [World.cell?, hg]
      simpa [List.getElem?_take, tx, hiL] using h
  have H7 := Lib.hid (H6.out.2.trans (hb7.mono H6.out.2.size))
  clear hO hown hr7 hb7 hlp2
  go_wp2_with fail
  go_ret
  exact ⟨rfl, H7.out⟩
end Go.Proofs.YtiaaeniopjpfpaaGreatDoor

namespace Go.Proofs.YtiaaeniopjpfpaaGreatDoor
open Go Go.RowKit Go.Maps
set_option linter.unusedVariables false
set_option linter.unusedSimpArgs false

section
variable {w : World}
theorem Add_nil (T : ByteArray) : Calls Tryz.prog 16 #[.pointer none, .string T] w fun e w' => e = .returned (.int .i64 1) ∧ w = w' := by
  go_enter Tryz.func16, Tryz.ntmps16
  go_wp2_with fail
  refine Err_nil.mono ?_
  rintro e w1 ⟨rfl, rfl⟩
  go_wp2_with fail
  go_ret
  exact ⟨rfl, rfl⟩
theorem Renew_nil (T : ByteArray) : Calls Tryz.prog 13 #[.pointer none, .string T] w fun e w' => e = .returned (.int .i64 1) ∧ w = w' := by
  go_enter Tryz.func13, Tryz.ntmps13
  go_wp2_with fail
  refine Err_nil.mono ?_
  rintro e w1 ⟨rfl, rfl⟩
  go_wp2_with fail
  go_ret
  exact ⟨rfl, rfl⟩
set_option maxRecDepth 20000 in
set_option maxHeartbeats 2000000 in
theorem choose_nil (lp : Nat) (hx : w.cell? ⟨lp, 0, none⟩ = some (.pointer none)) :
    Calls Tryz.prog 42 #[.pointer (some ⟨lp, 0, none⟩)] w fun e w' => e = .returned (.int .i64 1) ∧ Below w.heap.size w w' := by
  have hz := (zero_of_info zB_info).1
  have hsz : (Tryz.prog.info? 90).map (·.size) = some 128 := by kernel_rfl
  have hone : zB.toArray.all (·.oneCell') = true := by kernel_rfl
  obtain ⟨Z, hZ⟩ : ∃ Z, zB = Z := ⟨_, rfl⟩
  have hZl : Z.length = 128 := by rw [← hZ]; exact zB_len
  rw [hZ] at hz hone
  go_enter Tryz.func42, Tryz.ntmps42
  go_wp2_with fail
  go_loopw [9] (fun i wr => i = .int .i64 0 ∧ w = wr) (fun i _ => 0)
  case atStart => exact ⟨rfl, rfl⟩
  case round =>
    obtain ⟨rfl, rfl⟩ := hrel
    go_wp2_with fail
    refine (Read_nil 0).mono ?_
    rintro e w2 ⟨rfl, hb2⟩
    rw [hZ]
    have HB2 := Lib.hid hb2
    clear hb2
    have HNEW : Hid (Row (w2.alloc (.cells Z.toArray 90)) w2.heap.size 90 Z ∧ Below w2.heap.size w2 ((w2.alloc (.cells Z.toArray 90)).setRow w2.heap.size Z.toArray)) := Lib.hid
      ⟨Row.new w2 90 Z, below_setRow (B := w2.heap.size) ((Below.refl w2.heap.size w2).alloc (Nat.le_refl _) _) (Nat.le_refl _) _⟩
    go_wp2_with (first
      | (refine wpList_store_row rfl 90 (.tmp 4) (.tmp 19) rfl w2.heap.size Z.toArray rfl rfl 90 Z.toArray HNEW.out.1 (by rw [List.size_toArray, hZl]; exact hsz) rfl hone ?_; have hN := HNEW.out.2; generalize (w2.alloc (.cells Z.toArray 90)).setRow w2.heap.size Z.toArray = w3 at hN ⊢; have HN := Lib.hid (HB2.out.trans (hN.mono HB2.out.size)); clear hN)
      | fail)
    go_ret
    exact ⟨rfl, HN.out⟩
set_option maxRecDepth 100000 in
set_option maxHeartbeats 2000000 in
theorem Open_nil : Calls Tryz.prog 11 #[.pointer none] w fun e w' => e = .returned (.tuple #[.pointer none, .slice none 0 0, .int .i64 1]) ∧ Below w.heap.size w w' := by
  refine (callsIn_wide (n := 6)).1 ?_
  refine callsIn_of_wp_marks Tryz.func11 rfl trivial ?_ rfl
  simp only [Tryz.ntmps11, List.size_toArray, List.length_cons, List.length_nil, Nat.reduceAdd, Nat.reduceSub, Array.replicate_succ, Array.replicate_zero, List.push_toArray, List.append_toArray, List.nil_append, List.cons_append]
  rw [wpIn_wide]
  go_wp2_with fail
  refine (choose_nil w.heap.size (((Row.new w 83 [.pointer none, .int .u64 0, .int .i64 0, .int .i64 0, .int .i64 0, .int .i64 0]).alloc (.cells #[.pointer (some ⟨w.heap.size, 0, none⟩)] 30)).cell 0)).mono ?_
  rintro e w2 ⟨rfl, hb2⟩
  have hB : Below w.heap.size w w2 := (((Below.refl _ _).alloc (Nat.le_refl _) _).alloc (by simp) _).trans (hb2.mono (by simp; omega))
  have HB := Lib.hid hB
  clear hb2 hB
  go_wp2_with fail
  exact ⟨_, results_tmp3 rfl _ _ _, rfl, HB.out⟩
end
end Go.Proofs.YtiaaeniopjpfpaaGreatDoor

namespace Go.Proofs.YtiaaeniopjpfpaaGreatDoor
open Go Go.RowKit Go.Maps
set_option linter.unusedVariables false
set_option linter.unusedSimpArgs false

theorem Awake12_any (w : World) (hG : G w) :
    Calls Tryz.prog 66 #[] w fun e w' => e = .returned (.bool true) ∧ Below w.heap.size w w' := by
  have HA := Lib.hid (awake12_any w hG)
  clear hG
  go_enter Tryz.func66, Tryz.ntmps66
  go_wp2_with fail
  refine HA.out.mono ?_
  rintro e w' ⟨rfl, hB⟩
  go_wp2_with fail
  go_ret
  exact ⟨rfl, hB⟩

/-- The example's changes. -/
def exC : List CH := [⟨⟨#[97]⟩, ⟨#[49]⟩, false⟩, ⟨⟨#[97]⟩, ⟨#[]⟩, true⟩, ⟨⟨#[98]⟩, ⟨#[50]⟩, false⟩]
theorem exC_len : (textL 99 exC).length = 33 := by
  unfold textL
  simp [exC, text_length]
  rfl
theorem ex_step (P : List UInt8) : ((newDS 40).written 2 P).stepErr = 0 := by kernel_rfl
/-- A text that one sector holds, added to a new disk's log. -/
theorem new_add40 (t : List UInt8) (h : t.length ≤ 100) : (LG.zero.add (newDS 40) t).2 = 0 := by
  have hl : (frameL 1 t).length = 28 + t.length := frameL_length _ _
  have hp : (LG.zero.putR (newDS 40) (frameL 1 t)).2 = 0 := by
    unfold LG.putR
    rw [if_neg (by decide)]
    show (putG 200 (newDS 40) 2 (((newDS 40).read 2).take 0 ++ frameL 1 t)).2 = 0
    rw [List.take_zero, List.nil_append, putG, if_neg (fun h => by rw [h] at hl; simp at hl; omega), if_neg (by decide), List.drop_eq_nil_of_le (by omega), putG_nil]
    exact ex_step (pad128 (frameL 1 t))
  unfold LG.add
  rw [if_neg (by decide), if_neg (by omega), if_neg (by show ¬ 2432 < t.length + 28; omega)]
  rw [show LG.zero.count + 1 = 1 from rfl, hp]
  rfl
theorem opened_new40 : LG.opened (newDS 40) = LG.zero := opened_zeros (by kernel_rfl) (by kernel_rfl)
theorem bytes_new40 : LG.zero.bytes (newDS 40) = List.replicate 2432 0 := by kernel_rfl
theorem texts_new40 : LG.opentexts (newDS 40) = [] := by unfold LG.opentexts; rw [opened_new40, bytes_new40, frames_zeros]
theorem openG_new40 : LG.openG (newDS 40) = LG.zero := by unfold LG.openG; rw [texts_new40, opened_new40]; rfl
theorem trim_new40 : (Lib.trimRightB ((LG.opened (newDS 40)).bytes (newDS 40)) 0).length ≤ (LG.openG (newDS 40)).used := by
  rw [opened_new40, bytes_new40, openG_new40]
  exact trim_zeros [] 2432
theorem ex_add : (LG.zero.add (newDS 40) (textL 99 exC)).2 = 0 := new_add40 _ (by rw [exC_len]; decide)
theorem ex_most : ∀ c ∈ exC, c.most ∧ c.fault = 0 := by
  intro c hc
  unfold exC at hc
  simp only [List.mem_cons, List.not_mem_nil, or_false] at hc
  rcases hc with rfl | rfl | rfl <;> exact ⟨⟨by decide, by decide⟩, by decide⟩
theorem ex_has : Maps.has (applyD (.map []) exC) (kLit ⟨#[98]⟩) = true := by kernel_rfl
theorem ex_size : Maps.size (applyD (.map []) exC) = 1 := by kernel_rfl
theorem ex_at : (applyD (.map []) exC).atKey (kLit ⟨#[98]⟩) (CH.D ⟨⟨#[]⟩, ⟨#[]⟩, false⟩) = CH.D ⟨⟨#[98]⟩, ⟨#[50]⟩, false⟩ := by kernel_rfl

set_option maxRecDepth 20000 in
set_option maxHeartbeats 4000000 in
theorem awake13_any (w : World) (hG : G w) :
    Calls Tryz.prog 29 #[] w fun e w' => e = .returned (.bool true) ∧ Below w.heap.size w w' := by
  have HG := Lib.hid hG
  clear hG
  go_enter Tryz.func29, Tryz.ntmps29
  go_wp2_with fail
  refine (New_any 40 (by omega) (by omega) _).mono ?_
  rintro e w4 ⟨rfl, hD, hb4⟩
  have hd4 : DiskIs (fun k => k < w.heap.size) w4 (w.heap.size + 2) (newDS 40) := ⟨_, _, _, _, hD _ (fun k h => h)⟩
  obtain ⟨p, hp⟩ : ∃ p, w.heap.size + 2 = p := ⟨_, rfl⟩
  rw [hp] at hd4 ⊢
  have H4 := Lib.hid (And.intro hd4 hb4)
  clear hD hd4 hb4 hp
  go_wp2_with fail
  refine (stOpen_new (HG.out.below H4.out.2) H4.out.1 rfl trim_new40 texts_new40).mono ?_
  rintro e w5 ⟨sp, lp, mp, rfl, hord, hs5, hr5, hm5, hb5⟩
  rw [openG_new40] at hr5
  have hs4 := H4.out.2.size
  have hB5 : Below w.heap.size w w5 := H4.out.2.trans (hb5.mono hs4)
  have H5 := Lib.hid (And.intro hord (And.intro hs5 (And.intro hr5 (And.intro hm5 (And.intro hb5 hB5)))))
  clear hord hs5 hr5 hm5 hb5 hB5
  go_wp2_with fail
  refine (Awake12_any _ (HG.out.below H5.out.2.2.2.2.2)).mono ?_
  rintro e w6 ⟨rfl, hb6⟩
  have H6 := Lib.hid hb6
  clear hb6
  go_wp2_with fail
  refine (Put_ch _ _ _).mono ?_
  rintro e w7 ⟨rfl, hb7⟩
  have H7 : Hid (Below w5.heap.size w5 w7) := Lib.hid (H6.out.trans (hb7.mono H6.out.size))
  clear hb7
  go_wp2_with fail
  refine (Drop_ch _ _).mono ?_
  rintro e w8 ⟨rfl, hb8⟩
  have H8 : Hid (Below w5.heap.size w5 w8) := Lib.hid (H7.out.trans (hb8.mono H7.out.size))
  clear hb8
  go_wp2_with fail
  refine (Put_ch _ _ _).mono ?_
  rintro e w9 ⟨rfl, hb9⟩
  have H9 : Hid (Below w5.heap.size w5 w9) := Lib.hid (H8.out.trans (hb9.mono H8.out.size))
  clear hb9
  go_wp2_with fail
  have hsz := H9.out.size
  obtain ⟨g9, hg9⟩ : ∃ x, w9.heap.size = x := ⟨_, rfl⟩
  have hB5 := H5.out.2.2.2.2.2
  have hs5 := hB5.size
  have hord := H5.out.1
  have hrow := Row.new w9 76 (chs exC)
  rw [hg9] at hrow hsz
  have hb95 : Below w5.heap.size w5 (w9.alloc (.cells (chs exC).toArray 76)) := H9.out.alloc (by rw [hg9]; omega) _
  have hb94 : Below w4.heap.size w4 (w9.alloc (.cells (chs exC).toArray 76)) := H5.out.2.2.2.2.1.trans (hb95.mono H5.out.2.2.2.2.1.size)
  have hb90 : Below w.heap.size w (w9.alloc (.cells (chs exC).toArray 76)) := hB5.trans (hb95.mono hs5)
  have hszN : (w9.alloc (.cells (chs exC).toArray 76)).heap.size = g9 + 1 := by rw [World.size_alloc, hg9]
  have hd9 : DiskIs (fun k => (k < w.heap.size ∨ w4.heap.size ≤ k) ∧ k < g9 + 1) (w9.alloc (.cells (chs exC).toArray 76)) p (newDS 40) :=
    ((H4.out.1.more (L' := fun k => k < w.heap.size ∨ w4.heap.size ≤ k) (fun g hg => hg)).below hb94).less (fun k h => h.1)
  have hcr : ChRow (w9.alloc (.cells (chs exC).toArray 76)) (.slice (some ⟨g9, 0, none⟩) 3 3) exC :=
    ⟨some ⟨g9, 0, none⟩, 3, rfl, fun _ => ⟨g9, rfl⟩, fun g hg j x hx => by
      injection hg with hg
      injection hg with hg
      subst hg
      exact (hrow.cell j).trans hx⟩
  have hs5l := H5.out.2.1.lt
  have hl5l := H5.out.2.2.1.lt
  have hm5l := World.ownsMap.lt H5.out.2.2.2.1
  have hDO := stDo_add (L := fun k => (k < w.heap.size ∨ w4.heap.size ≤ k) ∧ k < g9 + 1) (HG.out.below hb90) (fun k h => by rw [hszN]; exact h.2) (by exact ⟨.inr hord.1, by omega⟩) (by exact ⟨.inr hord.2.2.1, by omega⟩)
    (H5.out.2.1.below hb95 hs5l) (H5.out.2.2.1.below hb95 hl5l) hd9 (SMap.keep H5.out.2.2.2.1 (hb95.block mp hm5l)) (by decide) (.slice (some ⟨g9, 0, none⟩) 3 3) hcr (fun k hk => by have hk' : g9 = k := Option.some.inj hk; subst hk'; exact ⟨⟨.inr (by have := H5.out.2.2.2.2.1.size; omega), by omega⟩, by omega⟩)
    (by exact ⟨.inr hord.2.1, by omega⟩) hord.2.2.2.1 hord.2.2.2.2.1 (by decide) (by decide) ex_most (by decide) (by decide) (by decide) (by decide) (by decide) rfl (by rw [exC_len]; decide) (by rw [exC_len]; decide) ex_add
  have HDO := Lib.hid hDO
  have H10 := Lib.hid (And.intro hb90 (And.intro hord (And.intro hszN (And.intro hb95 hs5))))
  have HLT := Lib.hid (And.intro hs5l hm5l)
  clear hDO hrow hb95 hb94 hb90 hszN hd9 hcr hs5l hl5l hm5l hord hB5 hs5 hsz
  rw [hg9]
  refine HDO.out.mono ?_
  rintro e w10 ⟨rfl, hr10, hd10, hm10, hk10⟩
  have hs10 : StRow w10 sp lp mp := (hk10.block sp (by rw [H10.out.2.2.1]; have := HLT.out.1; have := H9.out.size; omega) ⟨⟨.inr H10.out.2.1.2.1, by have := HLT.out.1; have := H9.out.size; omega⟩, H10.out.2.1.2.2.2.1, fun e => H10.out.2.1.2.2.2.2.2 e.symm⟩).trans (H5.out.2.1.below H10.out.2.2.2.1 HLT.out.1)
  have hB10 : Below w.heap.size w w10 := H10.out.1.trans (hk10.below (by rw [H10.out.2.2.1]; have := H10.out.2.2.2.2; have := H9.out.size; omega) (fun k h => ⟨⟨.inl h, by have := H10.out.2.2.2.2; have := H9.out.size; omega⟩, by have := H10.out.2.1.1; omega, by have := H10.out.2.1.2.2.1; omega⟩))
  have HGET := Lib.hid (stGet_any w10 sp lp mp _ _ ⟨#[98]⟩ (by unfold maxLen; decide) hs10 hm10)
  have H11 := Lib.hid (And.intro hs10 (And.intro hm10 hB10))
  clear hs10 hm10 hB10 hk10 hr10 hd10
  go_wp2_with fail
  refine HGET.out.mono ?_
  rintro e w11 ⟨c, rfl, hc, hb11⟩
  have hc2 : c = ⟨⟨#[98]⟩, ⟨#[50]⟩, false⟩ := D_inj (hc.symm.trans ex_at)
  subst hc2
  rw [ex_has]
  have hl11 := stLen_any w11 sp lp mp _ _ (H11.out.1.below hb11 H11.out.1.lt) (SMap.keep H11.out.2.1 (hb11.block mp (World.ownsMap.lt H11.out.2.1)))
  rw [ex_size] at hl11
  have HL11 := Lib.hid hl11
  have HB11 : Hid (Below w.heap.size w w11) := Lib.hid (H11.out.2.2.trans (hb11.mono H11.out.2.2.size))
  clear hl11 hb11 hc
  go_wp2_with fail
  refine HL11.out.mono ?_
  rintro e w12 ⟨rfl, rfl⟩
  go_wp2_with fail
  go_ret
  exact ⟨rfl, HB11.out⟩
end Go.Proofs.YtiaaeniopjpfpaaGreatDoor

namespace Go.Proofs.YtiaaeniopjpfpaaGreatDoor
open Go Go.RowKit Go.Maps Go.Shelf
set_option linter.unusedVariables false
set_option linter.unusedSimpArgs false
attribute [local go_sem] Oper.semAt_some

section
variable {w : World}
theorem stOpen_nil : Calls Tryz.prog 30 #[.pointer none] w fun e w' => e = .returned (.tuple #[.pointer none, .int .i64 1]) ∧ Below w.heap.size w w' := by
  go_enter Tryz.func30, Tryz.ntmps30
  go_wp2_with fail
  refine Open_nil.mono ?_
  rintro e w1 ⟨rfl, hb⟩
  have HB := Lib.hid hb
  clear hb
  go_wp2_with fail
  go_ret2
  exact ⟨rfl, HB.out⟩
theorem stGet_nil (k : ByteArray) : Calls Tryz.prog 31 #[.pointer none, .string k] w fun e w' => e = .returned (.tuple #[.string ⟨#[]⟩, .bool false]) ∧ w = w' := by
  go_enter Tryz.func31, Tryz.ntmps31
  go_wp2_with fail
  go_ret2
  exact ⟨rfl, rfl⟩
theorem stErr_nil : Calls Tryz.prog 36 #[.pointer none] w fun e w' => e = .returned (.int .i64 1) ∧ w = w' := by
  go_enter Tryz.func36, Tryz.ntmps36
  go_wp2_with fail
  go_ret
  exact ⟨rfl, rfl⟩
theorem stLen_nil : Calls Tryz.prog 35 #[.pointer none] w fun e w' => e = .returned (.int .i64 0) ∧ w = w' := by
  go_enter Tryz.func35, Tryz.ntmps35
  go_wp2_with fail
  go_ret
  exact ⟨rfl, rfl⟩
theorem stLeft_nil : Calls Tryz.prog 37 #[.pointer none] w fun e w' => e = .returned (.int .i64 0) ∧ w = w' := by
  go_enter Tryz.func37, Tryz.ntmps37
  go_wp2_with fail
  go_ret
  exact ⟨rfl, rfl⟩
theorem stRenew_nil : Calls Tryz.prog 34 #[.pointer none] w fun e w' => e = .returned (.int .i64 1) ∧ w = w' := by
  go_enter Tryz.func34, Tryz.ntmps34
  go_wp2_with fail
  go_ret
  exact ⟨rfl, rfl⟩
theorem stDo_nil (v : Value) : Calls Tryz.prog 33 #[.pointer none, v] w fun e w' => e = .returned (.int .i64 1) ∧ w = w' := by
  go_enter Tryz.func33, Tryz.ntmps33
  go_wp2_with fail
  refine stErr_nil.mono ?_
  rintro e w1 ⟨rfl, rfl⟩
  go_wp2_with fail
  go_ret
  exact ⟨rfl, rfl⟩
end
abbrev encK (x : ByteArray × ByteArray) : Array Value := #[.string x.1, .string x.2]
set_option maxHeartbeats 1000000 in
theorem stKeys_in (n : Nat) (k : ByteArray) (w : World) :
    CallsIn Fence.wide n Tryz.prog 32 #[.pointer none, .string k] w fun e w' => e = .returned (.func (.func 71) #[] #[.pointer (some ⟨w.heap.size, 0, none⟩), .pointer (some ⟨w.heap.size + 1, 0, none⟩)]) ∧
      w' = (w.alloc (.cells #[.pointer none] 63)).alloc (.cells #[.string k] 9) := by
  refine callsIn_of_wp Tryz.func32 rfl trivial ?_ rfl
  simp only [Tryz.ntmps32, List.size_toArray, List.length_cons, List.length_nil, Nat.reduceAdd, Nat.reduceSub, Array.replicate_succ, Array.replicate_zero, List.push_toArray, List.append_toArray, List.nil_append, List.cons_append]
  gi_wp2
  go_ret
  exact ⟨rfl, rfl⟩
set_option maxRecDepth 100000 in
set_option maxHeartbeats 2000000 in
theorem stKeys_stops_nil (n : Nat) (b1 b2 : Nat) (w : World) (hb : Boxed w b1 63 (.pointer none)) (Kp : World → World → Prop) :
    SeqStopsK Fence.wide n Tryz.prog 71 #[.pointer (some ⟨b1, 0, none⟩), .pointer (some ⟨b2, 0, none⟩)] encK Kp (fun ys => ys = []) (fun _ => False) 0 w := fun l J Jx W hW hJ _ hY h0 => by
  have hb2 : Boxed W b1 63 (.pointer none) := (hW.block b1 hb.lt).trans hb
  have c0 := hb2.cell
  have hl := hb2.lt
  have HJ : Hid (∀ o, J [] (W.alloc o)) := Lib.hid fun o => hJ _ _ _ none h0 (World.grownBy_alloc W o none) (fun r e => by cases e)
  clear hY h0 hJ hb hW hb2
  refine callsIn_of_wp Tryz.func71 rfl trivial ?_ rfl
  simp only [Tryz.ntmps71, List.size_toArray, List.length_cons, List.length_nil, Nat.reduceAdd, Nat.reduceSub, Array.replicate_succ, Array.replicate_zero, List.push_toArray, List.append_toArray, List.nil_append, List.cons_append]
  gi_wp2
  refine bodyPost_ret (results_none rfl _ _ _) rfl ?_
  exact ⟨⟨_, rfl⟩, .inl ⟨[], rfl, HJ.out _⟩⟩

theorem Awake13_any (w : World) (hG : G w) :
    Calls Tryz.prog 29 #[] w fun e w' => e = .returned (.bool true) ∧ Below w.heap.size w w' := awake13_any w hG

set_option maxRecDepth 100000 in
set_option maxHeartbeats 4000000 in
theorem StoreNil_walk (w : World) (hG : G w) :
    Calls Tryz.prog 6 #[] w fun e w' => e = .returned (.bool true) ∧ Below w.heap.size w w' := by
  refine (callsIn_wide (n := 6)).1 ?_
  refine callsIn_of_wp_marks Tryz.func6 rfl trivial ?_ rfl
  simp only [Tryz.ntmps6, List.size_toArray, List.length_cons, List.length_nil, Nat.reduceAdd, Nat.reduceSub, Array.replicate_succ, Array.replicate_zero, List.push_toArray, List.append_toArray, List.nil_append, List.cons_append]
  rw [wpIn_wide]
  obtain ⟨rb, hrb⟩ : ∃ rb, w.heap.size = rb := ⟨_, rfl⟩
  have b1 := Boxed.new w 4 (.bool false)
  have hB1 : Below w.heap.size w (w.alloc (.cells #[.bool false] 4)) := (Below.refl _ _).alloc (Nat.le_refl _) _
  have hz1 : (w.alloc (.cells #[.bool false] 4)).heap.size = w.heap.size + 1 := by simp
  have HG := Lib.hid hG
  rw [hrb] at b1 hz1
  have H0 := Lib.hid (And.intro b1 (And.intro hB1 hz1))
  have HRB := Lib.hid hrb
  clear b1 hB1 hz1 hG
  go_wp2_with fail
  refine (awake13_any _ (HG.out.below H0.out.2.1)).mono ?_
  rintro e wa ⟨rfl, hb1⟩
  have HA : Hid (Boxed wa rb 4 (.bool false) ∧ Below w.heap.size w wa ∧ rb + 1 ≤ wa.heap.size) := Lib.hid
    ⟨(hb1.block rb (by rw [H0.out.2.2]; omega)).trans H0.out.1, H0.out.2.1.trans (hb1.mono (by rw [H0.out.2.2]; omega)), by have := hb1.size; rw [H0.out.2.2] at this; exact this⟩
  clear hb1 H0
  go_wp2_with fail
  refine stOpen_nil.mono ?_
  rintro e wb ⟨rfl, hb2⟩
  have HB : Hid (Boxed wb rb 4 (.bool false) ∧ Below w.heap.size w wb ∧ rb + 1 ≤ wb.heap.size) := Lib.hid
    ⟨(hb2.block rb (by have := HA.out.2.2; omega)).trans HA.out.1, HA.out.2.1.trans (hb2.mono HA.out.2.1.size), by have := hb2.size; have := HA.out.2.2; omega⟩
  clear hb2 HA
  go_wp2_with fail
  refine (stGet_nil _).mono ?_
  rintro e wc ⟨rfl, rfl⟩
  go_wp2_with fail
  refine ((callsIn_wide (n := 0)).1 (stKeys_in 0 _ _)).mono ?_
  rintro e wc ⟨rfl, rfl⟩
  go_wp2_with fail
  obtain ⟨sb, hsb⟩ : ∃ s, wb.heap.size = s := ⟨_, rfl⟩
  have k1 := Boxed.new wb 63 (.pointer none)
  rw [hsb] at k1
  have k2 := k1.alloc (.cells #[.string ⟨#[]⟩] 9)
  have HC : Hid (Boxed ((wb.alloc (.cells #[.pointer none] 63)).alloc (.cells #[.string ⟨#[]⟩] 9)) rb 4 (.bool false) ∧ Below w.heap.size w ((wb.alloc (.cells #[.pointer none] 63)).alloc (.cells #[.string ⟨#[]⟩] 9)) ∧
      Boxed ((wb.alloc (.cells #[.pointer none] 63)).alloc (.cells #[.string ⟨#[]⟩] 9)) sb 63 (.pointer none) ∧ rb < sb) := Lib.hid
    ⟨(HB.out.1.alloc _).alloc _, (HB.out.2.1.alloc HB.out.2.1.size _).alloc (by have := HB.out.2.1.size; rw [World.size_alloc]; omega) _, k2, by have := HB.out.2.2; omega⟩
  rw [hsb]
  generalize ((wb.alloc (.cells #[.pointer none] 63)).alloc (.cells #[.string ⟨#[]⟩] 9)) = wm at HC ⊢
  clear k1 k2 HB
  have hwm : w.heap.size ≤ wm.heap.size := HC.out.2.1.size
  rw [← wpIn_wide (n := 6)]
  refine' wpIn_rangeFunc_ownG rfl (by omega) (gf := 71) (lb := #[.pointer (some ⟨sb, 0, none⟩), .pointer (some ⟨sb + 1, 0, none⟩)]) rfl trivial (enters_of Tryz.func71 (by kernel_rfl) rfl)
    (stKeys_stops_nil 5 sb (sb + 1) wm HC.out.2.2.1 (fun _ _ => True)) (fun _ _ => trivial) (fun _ _ _ _ _ _ _ _ => trivial) (Below.refl _ _) (fun _ => rfl)
    (fun (_ : List (ByteArray × ByteArray)) W => Boxed W rb 4 (.bool false) ∧ Below w.heap.size w W)
    (fun _ _ _ => False)
    (OwnFrom.and (Own.from (own_box rb 4 (fun _ : List (ByteArray × ByteArray) => .bool false)) _) (ownFrom_below (Nat.le_refl _) hwm))
    (fun _ _ _ _ _ hs _ _ => hs)
    ⟨HC.out.1, HC.out.2.1⟩
    _ _ _ _ _
  case refine'_2 =>
    intro l x W K hK
    gi_wp2
    exact hK
  case refine'_5 =>
    rintro D c pre W _ hp h _
    exact h.elim
  case refine'_3 =>
    rintro l' pre x W _ hlt
    exact absurd hlt (Nat.not_lt_zero _)
  case refine'_4 =>
    rintro D ys W hD hys ⟨hbx, hB⟩ hK
    have cR := hbx.cell
    have fR := hbx.frozen
    have HH := Lib.hid (And.intro hbx (And.intro hB (And.intro hK hD)))
    clear hbx hB hK hD hys
    go_wp2_with (first
      | (go_at_call 33; refine (stDo_nil _).mono ?_; rintro e wz ⟨rfl, rfl⟩)
      | (go_at_call 34; refine stRenew_nil.mono ?_; rintro e wz ⟨rfl, rfl⟩)
      | (go_at_call 35; refine stLen_nil.mono ?_; rintro e wz ⟨rfl, rfl⟩)
      | (go_at_call 36; refine stErr_nil.mono ?_; rintro e wz ⟨rfl, rfl⟩)
      | (go_at_call 37; refine stLeft_nil.mono ?_; rintro e wz ⟨rfl, rfl⟩))
    obtain ⟨hbx, hB, hK, hD⟩ := HH.out
    have hvR := hbx.set (.bool true)
    have hDr : D ≠ rb := by have h2 : wm.heap.size ≤ D := hD; have := HC.out.1.lt; omega
    have kD : (W.setCell ⟨rb, 0, none⟩ (.bool true)).heap[D]? = some (.deferred (some [])) := (Below.heap_setCell W ⟨rb, 0, none⟩ _ D hDr).trans hK
    have hR : ((W.setCell ⟨rb, 0, none⟩ (.bool true)).putObj D (.deferred none)).cell? ⟨rb, 0, none⟩ = some (.bool true) := Boxed.cell (t := 4) ((World.putObj_heap_other (Ne.symm hDr)).trans hvR)
    refine ⟨by simp, .inl ⟨_, _, rfl, run_takeDeferred kD, ?_⟩⟩
    exact ⟨.bool true, by simp [results, Tryz.f6, go_sem, hR], rfl, (hB.setCell (p := ⟨rb, 0, none⟩) (by show w.heap.size ≤ rb; omega) _).trans (belowK_b (w := w) (Nat.le_refl _) _ D _ _ (by have h2 : wm.heap.size ≤ D := hD; omega) kD rfl rfl)⟩
end Go.Proofs.YtiaaeniopjpfpaaGreatDoor

namespace Go.Proofs.YtiaaeniopjpfpaaGreatDoor.storeNil
open Go.ChangeShapes Go.WideShapes Go.ChangeAt Go.RowKit
open Go.ChangeMaps (open_string shut_string)
set_option linter.unusedVariables false

theorem own : ownKnob Tryz.prog.godebug = none := by kernel_rfl

set_option maxRecDepth 100000 in
theorem lifted (os : Os) (started : os.Started) (H : Type) (enc : TypeId × Value → H) :
    ReturnsInHanded {} Tryz.checked os 6 .any (fun w args => (Rows.storeNilSpec.pre enc Tryz.prog Tryz.f6 Rows.storeNilRow.domain false w args ∧ laidMetH Tryz.prog Rows.storeNilRow.laid w) ∧ sizedMet enc Tryz.prog Tryz.f6 (OpenSpec.ofChange Rows.storeNilSpec) false w args) (Rows.storeNilSpec.post enc Tryz.prog Tryz.f6 false true false false) := by
  refine returnsInHanded_of_change_and (C := Tryz.checked) (X := fun w _ => laidMetH Tryz.prog Rows.storeNilRow.laid w) (fun _ _ _ hh h => h.of_heap hh) own started (by kernel_rfl) Tryz.func6
    (ChangeSpec.witness_shaped (enc := enc) (C := Tryz.checked) (os := os) (X := fun w _ => laidMetH Tryz.prog Rows.storeNilRow.laid w) false (World.laidAll Tryz.prog os Rows.storeNilRow.laid) #[] 8 (World.laidAll_os _ _ _) (World.shaped_of_ZipB (by kernel_rfl) (by kernel_rfl)) (by kernel_rfl) (by kernel_rfl) (by kernel_rfl) (by rw [MakeChecks.laidMetH_plain _ _ _ (by kernel_rfl)]; exact laidMet_laidAll _ (by kernel_rfl) (by kernel_rfl))) ?_
  intro W base args ds gs before hval0 hW hcnd hsz0 hX1 hX2
  have hsz : (DataW.weightsEach Tryz.prog (Tryz.f6.params.toList ++ Rows.storeNilSpec.plain.varTypes Tryz.prog) (ds ++ gs)).all (· ≤ reachBytes) = true := hsz0
  have hval : ∀ (j : Nat) t v, Tryz.f6.params[j]? = some t → args[j]? = some v → Value.okWide Tryz.prog W .any base t v := hval0
  have hW' := hW
  obtain ⟨p, q, hA0, hV, rfl, hfz, hnd⟩ := hW
  have hA : DataW.TrodAll enc Tryz.prog W 0 (fun _ => true) true Tryz.f6.params.toList args.toList ds p := hA0
  rw [Tryz.params6] at hA hval hsz
  obtain ⟨hargs, rfl, rfl⟩ := trodAll_nil hA
  obtain rfl : args = #[] := by cases args; simp_all
  obtain ⟨rfl, rfl⟩ := trodVars_none hV
  clear hA0 hval0 hsz hsz0
  simp only [List.append_nil] at hW'
  refine (StoreNil_walk W (G_of_laidL hX1)).mono fun e W' ⟨he, bel⟩ => ?_
  subst he
  exact ⟨_, rfl, _, _, _, [], _, [], hW', trodAll_mk1 (shut_bool Tryz.underlying4 _), trodAll_mk0, rfl, bel.frame _, fun h => by cases h⟩

set_option maxHeartbeats 4000000 in
set_option maxRecDepth 100000 in
theorem closed : joinedFacts Tryz.prog 6 Tryz.f6 Rows.storeNilSpec Rows.storeNilRow = true := by
  unfold joinedFacts
  simp only [Bool.and_eq_true]
  repeat' apply And.intro
  all_goals as_aux_lemma => kernel_rfl

set_option maxHeartbeats 4000000 in
theorem over : Rows.storeNilRow.holds Tryz.pinned (OpenSpec.ofChange Rows.storeNilSpec) :=
  OpenClaim.holds_of_wide 6 Tryz.f6 rfl rfl rfl rfl rfl rfl rfl ⟨rfl, rfl, rfl, rfl, rfl⟩ rfl rfl rfl rfl rfl (by kernel_rfl) Tryz.func6 closed
    (of_decide_eq_true (by kernel_rfl)) (by unfold Func.isWrapper; first | (rw [if_pos (by decide +kernel)]; kernel_rfl) | (rw [if_neg (by decide +kernel)]; exact ⟨rfl, rfl⟩))
    (fun os started H enc _ => lifted os started H enc)

set_option maxHeartbeats 4000000 in
theorem proved : Rows.StoreNilCardSaid :=
  Claim7.holds_tied_plain_at .later [] [.data, .data, .pinned] true (true, "95d5dcc963f29f1f9ba13a6c6d68d10d7d59008c53bb6b3b5dc1e90669c3fd27") true
    over (fun _ h => by cases h) (by kernel_rfl) (fun _ h => by cases h) storeNil_row_tie rfl ⟨rfl, rfl⟩ (by kernel_rfl) rfl
    (fun f fn hf hfn => by
      obtain rfl : f = 6 := Option.some.inj ((show Tryz.prog.funcNamed "cashier/cashierlaw13.StoreNil" = some 6 by kernel_rfl).symm.trans hf) |>.symm
      obtain rfl : fn = Tryz.f6 := (Option.some.inj (Tryz.func6.symm.trans hfn)).symm
      exact ⟨by kernel_rfl, fun j t ht => by
        rw [Tryz.params6] at ht
        have hm : t ∈ [] := by simpa using Array.mem_of_getElem? ht
        have hall : ([].all fun u => !Tryz.prog.wantsStandIn u) = true := by kernel_rfl
        exact (show Tryz.prog.wantsStandIn t = false by simpa using List.all_eq_true.1 hall t hm)⟩)
    (by kernel_rfl)

end Go.Proofs.YtiaaeniopjpfpaaGreatDoor.storeNil
