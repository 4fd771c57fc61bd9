/- The walk of OctetParts. -/
import Derived.RangeFuncNested
import Derived.RangeFuncBound
import Derived.RangeFuncCalls
import Derived.RangeFuncLeaves
import Derived.RangeFuncBox
import Derived.Maps.AppendAt
import Derived.Shelf.Abstract
import Derived.Shelf.RegionOpen
import Derived.WalkKit
import Derived.OwnWalkIn
import Derived.TacticsInMore
import Derived.LoopNIn
import Derived.LoopIn
import Derived.Lib.Hide
import Derived.Deep.QuietTactic
import Derived.Deep.RegionHeld3
import Derived.Deep.DeepCutAuto
import Derived.Deep.Onto
import Derived.BigQuiet
import Derived.Test.YtioahofmjokbbaaStrs
namespace Go.Proofs.Ytioahofmjokbbaa
open Go.RowKit Go.Shelf
set_option linter.unusedVariables false
attribute [local go_sem] Oper.semAt_some

/-- Counted texts, one behind the other. -/
def catC : List ByteArray → ByteArray
  | [] => ⟨#[]⟩
  | p :: r => cnt p ++ catC r

theorem catC_append (a b : List ByteArray) : catC (a ++ b) = catC a ++ catC b := by
  induction a with
  | nil => show catC b = ⟨#[]⟩ ++ catC b; rw [ByteArray.ext_iff]; simp
  | cons p r ih => show cnt p ++ catC (r ++ b) = (cnt p ++ catC r) ++ catC b; rw [ih, ByteArray.append_assoc]

theorem catC_take (l : List ByteArray) (j : Nat) (hj : j < l.length) : catC (l.take (j + 1)) = catC (l.take j) ++ cnt (l.getD j ByteArray.empty) := by
  have h : l.take (j + 1) = l.take j ++ [l.getD j ByteArray.empty] := by
    rw [List.take_add_one, List.getElem?_eq_getElem hj]
    simp [List.getD, List.getElem?_eq_getElem hj]
  rw [h, catC_append]
  congr 1
  show cnt _ ++ ⟨#[]⟩ = _
  rw [ByteArray.ext_iff]; simp

theorem toldN_cnt (p r : ByteArray) (hp : p.size < 4294967296) : toldN (cnt p ++ r) = p.size := by
  unfold toldN cnt
  have h : ((ByteArray.mk (putL p.size 4).toArray ++ p ++ r).data.toList).take 4 = putL p.size 4 := by
    simp only [ByteArray.data_append, Array.toList_append, List.append_assoc]
    rw [List.take_append_of_le_length (by simp [putL_length]), List.take_of_length_le (by simp [putL_length])]
  rw [h, getL_putL]
  exact Nat.mod_eq_of_lt (by simpa using hp)

theorem fits_cnt (p r : ByteArray) (hp : p.size < 4294967296) : fits (cnt p ++ r) = true := by
  unfold fits
  rw [toldN_cnt p r hp]
  have h : (cnt p ++ r).size = p.size + 4 + r.size := by rw [ByteArray.size_append, cnt_size]
  rw [h]
  simp
  omega

theorem cut_cnt (p r : ByteArray) (hp : p.size < 4294967296) : partB (cnt p ++ r) = p ∧ restB (cnt p ++ r) = r := by
  have h : (cnt p ++ r).size = p.size + 4 + r.size := by rw [ByteArray.size_append, cnt_size]
  have hd : (cnt p ++ r).data.toList = putL p.size 4 ++ (p.data.toList ++ r.data.toList) := by
    unfold cnt
    simp only [ByteArray.data_append, Array.toList_append, List.append_assoc]
  have hl : (putL p.size 4).length = 4 := putL_length _ _
  have hpl : p.data.toList.length = p.size := by simp
  have hrl : r.data.toList.length = r.size := by simp
  constructor
  · unfold partB
    rw [if_pos (fits_cnt p r hp), toldN_cnt p r hp]
    rw [ByteArray.ext_iff, ← Array.toList_inj, ByteArray.data_extract, Array.toList_extract, hd, List.extract_eq_take_drop, List.drop_append_of_le_length (by omega), List.drop_of_length_le (by omega), List.nil_append, Nat.add_sub_cancel_left, List.take_append_of_le_length (by omega), List.take_of_length_le (by omega)]
  · unfold restB
    rw [if_pos (fits_cnt p r hp), toldN_cnt p r hp, h]
    rw [ByteArray.ext_iff, ← Array.toList_inj, ByteArray.data_extract, Array.toList_extract, hd, List.extract_eq_take_drop, ← List.append_assoc, List.drop_append_of_le_length (by rw [List.length_append]; omega), List.drop_of_length_le (by rw [List.length_append]; omega), List.nil_append, List.take_of_length_le (by omega)]

theorem partsB_catC : ∀ l : List ByteArray, (∀ p ∈ l, p.size < 4294967296) → partsB (catC l) = l := by
  intro l
  induction l with
  | nil => intro _; rfl
  | cons p r ih =>
    intro h
    have hp := h p (List.mem_cons_self)
    show partsB (cnt p ++ catC r) = p :: r
    rw [partsB_fits _ (fits_cnt p _ hp), (cut_cnt p _ hp).1, (cut_cnt p _ hp).2, ih fun q hq => h q (List.mem_cons_of_mem _ hq)]

theorem cut_back (s : ByteArray) (h : fits s = true) : cnt (partB s) ++ restB s = s := by
  have hr := restB_lt s h
  have hps : (partB s).size = toldN s := by
    unfold partB
    rw [if_pos h, ByteArray.size_extract]
    omega
  have h4 : (s.data.toList.take 4).length = 4 := by
    rw [List.length_take, Array.length_toList]
    show min 4 s.size = 4
    omega
  have hput : putL (toldN s) 4 = s.data.toList.take 4 := by
    have := putL_getL (s.data.toList.take 4)
    rw [h4] at this
    exact this
  have hsl : s.data.toList.length = s.size := by simp
  rw [ByteArray.ext_iff, ← Array.toList_inj, ByteArray.data_append, Array.toList_append]
  have h1 : (cnt (partB s)).data.toList = s.data.toList.take (4 + toldN s) := by
    unfold cnt
    rw [ByteArray.data_append, Array.toList_append, hps, hput]
    unfold partB
    rw [if_pos h, ByteArray.data_extract, Array.toList_extract, List.extract_eq_take_drop, Nat.add_sub_cancel_left, List.take_add]
  have h2 : (restB s).data.toList = s.data.toList.drop (4 + toldN s) := by
    unfold restB
    rw [if_pos h, ByteArray.data_extract, Array.toList_extract, List.extract_eq_take_drop, List.take_of_length_le (by rw [List.length_drop]; omega)]
  rw [h1, h2, List.take_append_drop]

theorem below_grown {w w' : World} (h : Below w.heap.size w w') : w.grownBy w' none := ⟨h.os, h.tape, h.output, h.size, fun k hk _ => h.block k hk⟩

theorem below_drewN {B : Nat} {a w : World} (h : Below B a w) (n : Nat) : Below B a (w.drewN n) := ⟨h.os, h.tape, h.output, h.size, h.block⟩

theorem Equal_true (v1 v2 : Value) (l : List ByteArray) (w0 : World) (h1 : Strs w0 v1 l) (h2 : Strs w0 v2 l) (hl1 : l.length ≤ 100000) (w : World) (hb : Below w0.heap.size w0 w) :
    Calls Try.prog 21 #[v1, v2] w fun e w' => e = .returned (.bool true) ∧ ∃ n, w' = w.drewN n := by
  have h := Equal_any v1 v2 l l w (h1.below (Nat.le_refl _) hb) (h2.below (Nat.le_refl _) hb) hl1 hl1
  rw [decide_eq_true rfl] at h
  exact h

/-- What holds behind the first of the loops. -/
def PSt (w : World) (B D : Nat) (v : Value) (xs : List ByteArray) (wr : World) : Prop :=
  Boxed wr B 39 v ∧ wr.ownsRow w.heap.size 9 1 v xs.length (xs.map Value.string) ∧ wr.heap[D]? = some (.deferred (some [])) ∧ Below w.heap.size w wr

theorem PSt.grow {w : World} {B D : Nat} {v : Value} {xs : List ByteArray} {wr wr' : World} (h : PSt w B D v xs wr) (hb : Below wr.heap.size wr wr') : PSt w B D v xs wr' := by
  obtain ⟨h1, h2, h3, h4⟩ := h
  have hg := below_grown hb
  exact ⟨h1.kept hg (by simp), h2.kept hg (by cases v.ownBlock <;> simp), (hb.block D (Array.getElem?_eq_some_iff.1 h3).1).trans h3, h4.trans (hb.mono h4.size)⟩

theorem PSt.strs {w : World} {B D : Nat} {v : Value} {xs : List ByteArray} {wr : World} (h : PSt w B D v xs wr) : Strs wr v xs := Strs.own h.2.1 rfl

set_option maxRecDepth 100000 in
set_option maxHeartbeats 4000000 in
theorem OctetParts_walk (a0 : ByteArray) (v1 : Value) (l : List ByteArray) (w : World) (w0 : a0.size ≤ 140737488355328) (w1 : Strs w v1 l) (hl : l.length ≤ 9223372036854775807) :
    Calls Try.prog 5 #[.string a0, v1] w fun e w' => e = .returned (.bool true) ∧ Below w.heap.size w w' := by
  refine (callsIn_wide (n := 6)).1 ?_
  refine callsIn_of_wp_marks Try.func5 rfl trivial ?_ rfl
  simp only [Try.ntmps5, List.size_toArray, List.length_cons, List.length_nil, Nat.reduceAdd, Nat.reduceSub, Array.replicate_succ, Array.replicate_zero, List.push_toArray, List.append_toArray, List.nil_append, List.cons_append]
  obtain ⟨i0, hi, hz0, hz1, hz2⟩ := info_parts str_info
  have W1 := Lib.hid w1
  obtain ⟨p1, c1, b1, o1, rfl, hp1, hc1⟩ := w1
  have HC := Lib.hid (And.intro hp1 hc1)
  clear hp1 hc1
  by_cases hbig : a0.size ≤ 2000 ∧ l.length ≤ 20
  · obtain ⟨hs, hn⟩ := hbig
    rw [wpIn_wide]
    go_wp2_with fail
    refine (awake_any _).mono ?_
    rintro e wa ⟨rfl, hb0⟩
    have hor : (decide ((2000 : Int) < (a0.size : Int)) || decide ((20 : Int) < (l.length : Int))) = false := by simp; omega
    go_wp2_with fail
    refine ((callsIn_wide (n := 0)).1 (Parts_in 0 a0 _)).mono ?_
    rintro e w2 ⟨rfl, rfl⟩
    go_wp2_with fail
    have bO := Boxed.new wa 39 (.slice none 0 0)
    have bN := Boxed.new (wa.alloc (.cells #[.slice none 0 0] 39)) 9 (.string a0)
    rw [World.size_alloc] at bN
    have hB1 : Below w.heap.size w ((wa.alloc (.cells #[.slice none 0 0] 39)).alloc (.cells #[.string a0] 9)) := (hb0.alloc hb0.size _).alloc (by have := hb0.size; simp; omega) _
    have hsa := hb0.size
    have hplen := partsB_len _ a0 (Nat.le_refl _)
    rw [← wpIn_wide (n := 6)]
    refine' wpIn_rangeFunc_ownG rfl (by omega) (gf := 25) (lb := #[.pointer (some ⟨wa.heap.size + 1, 0, none⟩)]) rfl trivial (enters_of Try.func25 (by kernel_rfl) rfl)
      (Parts_stops 5 (by omega) (wa.heap.size + 1) w.heap.size a0 w0 _ (by simp) bN.cell) belowK_t (belowK_b (by simp; omega)) (Below.refl _ _) (fun _ => rfl)
      (fun (pre : List ByteArray) W => (∃ v, Boxed W wa.heap.size 39 v ∧ W.ownsRow w.heap.size 9 1 v pre.length (pre.map Value.string) ∧ True) ∧ Below w.heap.size w W)
      (fun _ _ _ => False)
      (OwnFrom.and (Own.from (holdsRow_own w.heap.size wa.heap.size 39 9 1 (fun (pre : List ByteArray) => pre.length) (fun pre => pre.map Value.string) (fun _ _ => True)) _) (ownFrom_below (Nat.le_refl _) (by simp; omega)))
      (fun _ _ _ _ _ hs _ _ => hs)
      ⟨⟨_, bO.alloc _, World.ownsRow_nil _ _ _ _, trivial⟩, hB1⟩
      _ _ _ _ _
    case refine'_2 =>
      intro l x W K hK
      gi_wp2
      exact hK
    case refine'_5 =>
      rintro D c pre W _ _ h _
      exact h.elim
    case refine'_3 =>
      rintro l' pre x W ⟨⟨v, hv, hrow, _⟩, hB⟩ hlt
      have hc := hv.cell
      gi_wp2_with (gi_at_builtin; refine wpListIn_append_own _ rfl _ _ 39 rfl w.heap.size 9 i0 (.string ⟨#[]⟩) 1 16 Try.underlying39 hi hz0 hz1 hz2 rfl (by decide) _ _ _ rfl (hrow.alloc _) ⟨W.heap.size, 0, none⟩ 1 1 [.string x] rfl rfl (cell_one_new _ _ _) (by simp [Value.oneCell']) (by unfold maxLen; omega) (by omega) (by have := hB.size; simp; omega) ?_; intro v' w1 hown' hgrow _; obtain ⟨g', cap', rfl⟩ := ownsRow_succ hown'; obtain ⟨hv1, hv2, hr2, hk2, hb2⟩ := hv.appended (by decide) hrow hB.size hsa hown' hgrow; have hc1 := hv1.cell; have hf1 := hv1.frozen)
      exact ⟨hk2.from _, hb2, ⟨_, hv2, by simpa using hr2, trivial⟩, hB.trans hb2⟩
    case refine'_4 =>
      rintro D ys W hD rfl ⟨⟨v, hv, hrow, _⟩, hB⟩ hK
      have HV := Lib.hid (And.intro hv hrow)
      have HK := Lib.hid hK
      clear hv hrow hK bO bN hB1 hb0
      have HS : Hid (PSt w wa.heap.size D v (partsB a0) W) := ⟨HV.out.1, HV.out.2, HK.out, hB⟩
      have hwD : w.heap.size ≤ D := by have := hD; simp at this; omega
      clear HV HK hB hD
      go_wp2_with fail
      go_loopw [7, 35] (fun s i wr => ∃ (j : Nat) (c : ByteArray), j ≤ l.length ∧ i = .int .i64 j ∧ s = .string c ∧ c.size ≤ j * 304 ∧ Hid (c = catC (l.take j) ∧ ∀ k, k < j → (l.getD k ByteArray.empty).size ≤ 300) ∧ Hid (PSt w wa.heap.size D v (partsB a0) wr)) (fun _ i _ => l.length - (intOf i).toNat)
      case atStart => exact ⟨0, _, Nat.zero_le _, rfl, rfl, Nat.le_refl _, Lib.hid ⟨rfl, fun k hk => by omega⟩, HS⟩
      case round =>
        obtain ⟨j, c, hj, rfl, rfl, hcs, HJ, HW⟩ := hrel
        by_cases hlt : j < l.length
        · obtain ⟨rfl, hb1⟩ := HC.out.1 (by omega)
          have hx := HC.out.2 j hlt
          obtain ⟨x, HX⟩ : ∃ x, Hid (l.getD j ByteArray.empty = x) := ⟨_, Lib.hid rfl⟩
          rw [HX.out] at hx
          have hxw := (HW.out.2.2.2.cell (p := ⟨b1, o1 + j, none⟩) hb1).trans hx
          clear hx
          by_cases hxs : x.size ≤ 300
          · have hcn := cnt_size x
            have hcj : c.size ≤ 6080 := by omega
            obtain ⟨y, HY⟩ : ∃ y, Hid (cnt x = y) := ⟨_, Lib.hid rfl⟩
            rw [HY.out] at hcn
            have hstep : Hid (c ++ y = catC (l.take (j + 1)) ∧ ∀ k, k < j + 1 → (l.getD k ByteArray.empty).size ≤ 300) := Lib.hid ⟨by rw [catC_take l j hlt, HX.out, HY.out, HJ.out.1], fun k hk => by
              rcases (by omega : k < j ∨ k = j) with h | h
              · exact HJ.out.2 k h
              · subst h; rw [HX.out]; exact hxs⟩
            have hsz : (c ++ y).size ≤ (j + 1) * 304 := by rw [ByteArray.size_append]; omega
            have HZ := Lib.hid hsz
            clear hsz
            go_wp2_with (go_at_call 18; refine (Counted_any x _ (by omega)).mono ?_; rintro e w2 ⟨rfl, hb2⟩; rw [HY.out])
            go_roundw
            case rel => exact ⟨j + 1, c ++ y, by omega, by go_num, rfl, HZ.out, hstep, Lib.hid (HW.out.grow hb2)⟩
            case measure => simp [intOf]; omega
          · go_wp2_with fail
            have hD1 := HW.out.2.2.1
            refine ⟨by simp, .inl ⟨_, _, rfl, run_takeDeferred hD1, ?_⟩⟩
            exact ⟨_, results_tmp rfl _ _ _, rfl, HW.out.2.2.2.trans (belowK_b (w := w) (Nat.le_refl _) wr D _ _ hwD hD1 rfl rfl)⟩
        · obtain rfl : j = l.length := by omega
          have hpc : Hid (partsB c = l) := Lib.hid (by
            rw [HJ.out.1, List.take_length]
            exact partsB_catC l fun p hp => by
              obtain ⟨k, hk, rfl⟩ := List.getElem_of_mem hp
              have h := HJ.out.2 k hk
              simp [List.getD, List.getElem?_eq_getElem hk] at h
              omega)
          have hc47 : c.size ≤ 140737488355328 := by omega
          go_wp2_with fail
          refine ((callsIn_wide (n := 0)).1 (Parts_in 0 c _)).mono ?_
          rintro e w2 ⟨rfl, rfl⟩
          go_wp2_with fail
          have bO := Boxed.new wr 39 (.slice none 0 0)
          have bN := Boxed.new (wr.alloc (.cells #[.slice none 0 0] 39)) 9 (.string c)
          rw [World.size_alloc] at bN
          have hB1 : Below wr.heap.size wr ((wr.alloc (.cells #[.slice none 0 0] 39)).alloc (.cells #[.string c] 9)) := ((Below.refl _ wr).alloc (Nat.le_refl _) _).alloc (by simp) _
          have hplen2 := partsB_len _ c (Nat.le_refl _)
          have hNw : Hid (w.heap.size ≤ wr.heap.size) := Lib.hid HW.out.2.2.2.size
          rw [← wpIn_wide (n := 6)]
          refine' wpIn_rangeFunc_ownG rfl (by omega) (gf := 25) (lb := #[.pointer (some ⟨wr.heap.size + 1, 0, none⟩)]) rfl trivial (enters_of Try.func25 (by kernel_rfl) rfl)
            (Parts_stops 5 (by omega) (wr.heap.size + 1) wr.heap.size c hc47 _ (by simp) bN.cell) belowK_t (belowK_b (by simp; omega)) (Below.refl _ _) (fun _ => rfl)
            (fun (pre : List ByteArray) W => (∃ v, Boxed W wr.heap.size 39 v ∧ W.ownsRow wr.heap.size 9 1 v pre.length (pre.map Value.string) ∧ True) ∧ Below wr.heap.size wr W)
            (fun _ _ _ => False)
            (OwnFrom.and (Own.from (holdsRow_own wr.heap.size wr.heap.size 39 9 1 (fun (pre : List ByteArray) => pre.length) (fun pre => pre.map Value.string) (fun _ _ => True)) _) (ownFrom_below (Nat.le_refl _) (by simp; omega)))
            (fun _ _ _ _ _ hs _ _ => hs)
            ⟨⟨_, bO.alloc _, World.ownsRow_nil _ _ _ _, trivial⟩, hB1⟩
            _ _ _ _ _
          case refine'_2 =>
            intro l x W K hK
            gi_wp2
            exact hK
          case refine'_5 =>
            rintro D2 c pre W _ _ h _
            exact h.elim
          case refine'_3 =>
            rintro l' pre x W ⟨⟨v, hv, hrow, _⟩, hB⟩ hlt
            have hc := hv.cell
            gi_wp2_with (gi_at_builtin; refine wpListIn_append_own _ rfl _ _ 39 rfl wr.heap.size 9 i0 (.string ⟨#[]⟩) 1 16 Try.underlying39 hi hz0 hz1 hz2 rfl (by decide) _ _ _ rfl (hrow.alloc _) ⟨W.heap.size, 0, none⟩ 1 1 [.string x] rfl rfl (cell_one_new _ _ _) (by simp [Value.oneCell']) (by unfold maxLen; omega) (by omega) (by have := hB.size; simp; omega) ?_; intro v' w1 hown' hgrow _; obtain ⟨g', cap', rfl⟩ := ownsRow_succ hown'; obtain ⟨hv1, hv2, hr2, hk2, hb2⟩ := hv.appended (by decide) hrow hB.size (Nat.le_refl _) hown' hgrow; have hc1 := hv1.cell; have hf1 := hv1.frozen)
            exact ⟨hk2.from _, hb2, ⟨_, hv2, by simpa using hr2, trivial⟩, hB.trans hb2⟩
          case refine'_4 =>
            rintro D2 ys W2 hD rfl ⟨⟨v2, hv, hrow, _⟩, hB⟩ hK
            have HP := Lib.hid (HW.out.grow hB)
            have HQ : Hid (PSt w wr.heap.size D2 v2 l W2) := Lib.hid ⟨hv, by rw [hpc.out] at hrow; exact hrow.mono hNw.out, hK, HW.out.2.2.2.trans (hB.mono hNw.out)⟩
            have hDD : Hid (D ≠ D2 ∧ w.heap.size ≤ D2) := Lib.hid (by
              have h1 := (Array.getElem?_eq_some_iff.1 HW.out.2.2.1).1
              have h2 := hNw.out
              simp at hD
              constructor <;> omega)
            clear hv hrow hK bO bN hB1 hB hD hNw
            go_wp2_with fail
            refine (refParts_any a0 _ (by omega)).mono ?_
            rintro e w3 ⟨v3, rfl, hrow3, hb3⟩
            have HP3 := Lib.hid (HP.out.grow hb3)
            have HQ3 := Lib.hid (HQ.out.grow hb3)
            have S3 := Strs.own hrow3 rfl
            have HS3 := Lib.hid S3
            obtain ⟨a3, cap3, b3, o3, rfl, hp3, hc3⟩ := S3
            have HC3 := Lib.hid (And.intro hp3 hc3)
            clear hp3 hc3 hrow3 hb3 HP HQ
            have hplen := partsB_len _ a0 (Nat.le_refl _)
            cases hf : fits a0 with
            | false =>
              have hnil : partsB a0 = [] := partsB_not a0 hf
              have ep : partB a0 = ⟨#[]⟩ := by unfold partB; rw [hf]; rfl
              have er : restB a0 = ⟨#[]⟩ := by unfold restB; rw [hf]; rfl
              have HF := Lib.hid (And.intro hf (And.intro ep er))
              have hn3 : (partsB a0).length = 0 := by rw [hnil]; rfl
              obtain ⟨n3, HN3⟩ : ∃ n3, Hid ((partsB a0).length = n3) := ⟨_, Lib.hid rfl⟩
              rw [HN3.out] at hn3 ⊢
              clear hnil ep er hf
              subst hn3
              go_wp2_with (go_at_call 20; refine (Cut_any a0 _ w0).mono ?_; rintro e w4 ⟨⟨m, rfl⟩, rfl⟩; rw [HF.out.1, HF.out.2.1, HF.out.2.2])
              have HP4 : Hid (PSt w wa.heap.size D v (partsB a0) (w3.drewN m)) := Lib.hid (HP3.out.grow (below_drewN (Below.refl _ _) m))
              have HQ4 : Hid (PSt w wr.heap.size D2 v2 l (w3.drewN m)) := Lib.hid (HQ3.out.grow (below_drewN (Below.refl _ _) m))
              have HS4 := Lib.hid (HS3.out.below (Nat.le_refl _) (below_drewN (Below.refl _ _) m))
              rw [HN3.out] at HS4
              obtain ⟨w5, HW5⟩ : ∃ w5, Hid (w3.drewN m = w5) := ⟨_, Lib.hid rfl⟩
              rw [HW5.out] at HP4 HQ4 HS4 ⊢
              -- the state ahead of the last region, in world w5
              have hgot := HP4.out.1.cell
              have hback := HQ4.out.1.cell
              have W5 := Lib.hid (W1.out.below (Nat.le_refl _) HP4.out.2.2.2)
              have C1 := Lib.hid (Equal_true v (.slice a3 0 cap3) (partsB a0) w5 HP4.out.strs HS4.out (by omega))
              have C2 := Lib.hid (Equal_true v2 (.slice p1 l.length c1) l w5 HQ4.out.strs W5.out (by omega))
              have hpl : Hid (0 < l.length → p1 = some ⟨b1, o1, none⟩ ∧ b1 < w.heap.size) := Lib.hid HC.out.1
              by_cases hl0 : l.length = 0
              · have hl0i : ((l.length : Int) == 0) = true := by rw [hl0]; rfl
                clear hl0
                go_quiet ((first
                  | (go_at_call 21; with_reducible exact Calls.quiet_of (C1.out _ (below_drewN (Below.refl _ _) _)))
                  | (go_at_call 21; with_reducible exact Calls.quiet_of (C2.out _ (below_drewN (Below.refl _ _) _)))))
                go_wp2_with fail
                have hD2 : (w5.drewN nq).heap[D2]? = some (.deferred (some [])) := HQ4.out.2.2.1
                have hD1 : ((w5.drewN nq).putObj D2 (.deferred none)).heap[D]? = some (.deferred (some [])) := (World.putObj_heap_other hDD.out.1).trans HP4.out.2.2.1
                refine ⟨by simp, .inl ⟨_, _, rfl, run_takeDeferred hD2, ⟨by simp, .inl ⟨_, _, rfl, run_takeDeferred hD1, ?_⟩⟩⟩⟩
                exact ⟨_, results_tmp rfl _ _ _, rfl, ((below_drewN HP4.out.2.2.2 nq).trans (belowK_b (w := w) (Nat.le_refl _) _ D2 _ _ hDD.out.2 hD2 rfl rfl)).trans (belowK_b (w := w) (Nat.le_refl _) _ D _ _ hwD hD1 rfl rfl)⟩
              · obtain ⟨rfl, hb1⟩ := HC.out.1 (by omega)
                have hx0 := HC.out.2 0 (by omega)
                obtain ⟨x0, HX0⟩ : ∃ x0, Hid (l.getD 0 ByteArray.empty = x0) := ⟨_, Lib.hid rfl⟩
                rw [HX0.out, Nat.add_zero] at hx0
                have hx0s : x0.size ≤ 300 := by rw [← HX0.out]; exact HJ.out.2 0 (by omega)
                have hxc := (HP4.out.2.2.2.cell (p := ⟨b1, o1, none⟩) hb1).trans hx0
                have hl0i : ((l.length : Int) == 0) = false := by rw [beq_eq_false_iff_ne]; omega
                have hl0j : (0 : Int) < (l.length : Int) := by omega
                have hl0n : 0 < l.length := by omega
                obtain ⟨y0, HY0⟩ : ∃ y0, Hid (cnt x0 = y0) := ⟨_, Lib.hid rfl⟩
                have K1 : Hid (∀ W : World, Calls Try.prog 18 #[.string x0] W fun e w' => e = .returned (.string y0) ∧ Below W.heap.size W w') := Lib.hid fun W => by
                  have h := Counted_any x0 W (by omega)
                  rw [HY0.out] at h
                  exact h
                have K2 : Hid (∀ W : World, Calls Try.prog 22 #[.string x0] W fun e w' => e = .returned (.string y0) ∧ Below W.heap.size W w') := Lib.hid fun W => by
                  have h := refCounted_any x0 W (by omega)
                  rw [HY0.out] at h
                  exact h
                have hy0 : (y0.toList == y0.toList) = true := by simp
                have hg1 : wa.heap.size < w5.heap.size := HP4.out.1.lt
                have hg2 : wr.heap.size < w5.heap.size := HQ4.out.1.lt
                have hg3 : b1 < w5.heap.size := Nat.lt_of_lt_of_le hb1 HP4.out.2.2.2.size
                have hbx := Below.refl w5.heap.size w5
                clear hx0 hl0 HC
                have G5 := Lib.hid (And.intro hgot (And.intro hback hxc))
                go_region_held3 (fun w' => w'.cell? ⟨wa.heap.size, 0, none⟩ = some v ∧ w'.cell? ⟨wr.heap.size, 0, none⟩ = some v2 ∧ w'.cell? ⟨b1, o1, none⟩ = some (.string x0)) (first | go_keep | exact ⟨hgot, hback, hxc⟩)
                  (first
                    | (go_at_call_of 21 v; refine (C1.out _ (by exact ⟨hbx.os, hbx.tape, hbx.output, hbx.size, hbx.block⟩)).mono ?_; rintro e w6 ⟨rfl, ⟨m6, rfl⟩⟩; have hbx := below_drewN hbx m6)
                    | (go_at_call_of 21 v2; refine (C2.out _ (by exact ⟨hbx.os, hbx.tape, hbx.output, hbx.size, hbx.block⟩)).mono ?_; rintro e w6 ⟨rfl, ⟨m6, rfl⟩⟩; have hbx := below_drewN hbx m6)
                    | (go_at_call 18; refine (K1.out _).mono ?_; rintro e w6 ⟨rfl, hbc⟩; have hbx := Below.trans (B := w5.heap.size) (a := w5) (by exact ⟨hbx.os, hbx.tape, hbx.output, hbx.size, hbx.block⟩) (hbc.mono hbx.size); have hgot := (hbx.cell (p := ⟨wa.heap.size, 0, none⟩) hg1).trans G5.out.1; have hback := (hbx.cell (p := ⟨wr.heap.size, 0, none⟩) hg2).trans G5.out.2.1; have hxc := (hbx.cell (p := ⟨b1, o1, none⟩) hg3).trans G5.out.2.2)
                    | (go_at_call 22; refine (K2.out _).mono ?_; rintro e w6 ⟨rfl, hbc⟩; have hbx := Below.trans (B := w5.heap.size) (a := w5) (by exact ⟨hbx.os, hbx.tape, hbx.output, hbx.size, hbx.block⟩) (hbc.mono hbx.size); have hgot := (hbx.cell (p := ⟨wa.heap.size, 0, none⟩) hg1).trans G5.out.1; have hback := (hbx.cell (p := ⟨wr.heap.size, 0, none⟩) hg2).trans G5.out.2.1; have hxc := (hbx.cell (p := ⟨b1, o1, none⟩) hg3).trans G5.out.2.2))
                all_goals
                  have HP6 := HP4.out.grow hbx
                  have HQ6 := HQ4.out.grow hbx
                  have HB6 := Lib.hid (And.intro HP6.2.2.1 (And.intro HP6.2.2.2 HQ6.2.2.1))
                  clear HP6 HQ6 hbx
                  go_wp2_with fail
                  refine ⟨by simp, .inl ⟨_, _, rfl, run_takeDeferred HB6.out.2.2, ⟨by simp, .inl ⟨_, _, rfl, run_takeDeferred ((World.putObj_heap_other hDD.out.1).trans HB6.out.1), ?_⟩⟩⟩⟩
                  exact ⟨_, results_tmp rfl _ _ _, rfl, (HB6.out.2.1.trans (belowK_b (w := w) (Nat.le_refl _) _ D2 _ _ hDD.out.2 HB6.out.2.2 rfl rfl)).trans (belowK_b (w := w) (Nat.le_refl _) _ D _ _ hwD ((World.putObj_heap_other hDD.out.1).trans HB6.out.1) rfl rfl)⟩
            | true =>
              have hpc1 := partsB_fits a0 hf
              have hbk := cut_back a0 hf
              have hrl := restB_lt a0 hf
              have hps : (partB a0).size ≤ 2000 := by unfold partB; rw [if_pos hf, ByteArray.size_extract]; omega
              obtain ⟨p0, HP0⟩ : ∃ p0, Hid (partB a0 = p0) := ⟨_, Lib.hid rfl⟩
              obtain ⟨r0, HR0⟩ : ∃ r0, Hid (restB a0 = r0) := ⟨_, Lib.hid rfl⟩
              obtain ⟨q0, HQ0⟩ : ∃ q0, Hid (cnt p0 = q0) := ⟨_, Lib.hid rfl⟩
              have hqs := cnt_size p0
              rw [HP0.out] at hps hpc1 hbk
              rw [HR0.out] at hbk hrl
              rw [HQ0.out] at hbk hqs
              have hn3 : 0 < (partsB a0).length := by rw [hpc1]; simp
              have hx3 := HC3.out.2 0 hn3
              obtain ⟨rfl, hb3⟩ := HC3.out.1 hn3
              have hg0 : (partsB a0).getD 0 ByteArray.empty = p0 := by rw [hpc1]; rfl
              rw [hg0, Nat.add_zero] at hx3
              have HF := Lib.hid hf
              obtain ⟨n3, HN3⟩ : ∃ n3, Hid ((partsB a0).length = n3) := ⟨_, Lib.hid rfl⟩
              rw [HN3.out] at hn3 hplen ⊢
              have hn3i : ((n3 : Int) == 0) = false := by rw [beq_eq_false_iff_ne]; omega
              have hn3j : (0 : Int) < (n3 : Int) := by omega
              clear hpc1 hg0 hf
              have hadd : ∀ W : World, (Op.stringOp .add q0 r0).run Try.prog W = .ok (.string a0) W := fun W => by rw [← hbk]; exact run_string_add_sum W q0 r0 (by omega)
              clear hbk
              go_wp2_with (first
                | (go_at_call 20; refine (Cut_any a0 _ w0).mono ?_; rintro e w4 ⟨⟨m, rfl⟩, rfl⟩; rw [HF.out, HP0.out, HR0.out])
                | (go_at_call 18; refine (Counted_any p0 _ (by omega)).mono ?_; rintro e w5 ⟨rfl, hb5⟩; rw [HQ0.out]))
              have hb35 : Below w3.heap.size w3 w5 := (below_drewN (Below.refl _ _) m).trans hb5
              have HP4 := Lib.hid (HP3.out.grow hb35)
              have HQ4 := Lib.hid (HQ3.out.grow hb35)
              have HS4 := Lib.hid (HS3.out.below (Nat.le_refl _) hb35)
              rw [HN3.out] at HS4
              clear hadd hx3 hb35 hb5
              -- the state ahead of the last region, in world w5
              have hgot := HP4.out.1.cell
              have hback := HQ4.out.1.cell
              have W5 := Lib.hid (W1.out.below (Nat.le_refl _) HP4.out.2.2.2)
              have C1 := Lib.hid (Equal_true v (.slice (some ⟨b3, o3, none⟩) n3 cap3) (partsB a0) w5 HP4.out.strs HS4.out (by omega))
              have C2 := Lib.hid (Equal_true v2 (.slice p1 l.length c1) l w5 HQ4.out.strs W5.out (by omega))
              have hpl : Hid (0 < l.length → p1 = some ⟨b1, o1, none⟩ ∧ b1 < w.heap.size) := Lib.hid HC.out.1
              by_cases hl0 : l.length = 0
              · have hl0i : ((l.length : Int) == 0) = true := by rw [hl0]; rfl
                clear hl0
                go_quiet ((first
                  | (go_at_call 21; with_reducible exact Calls.quiet_of (C1.out _ (below_drewN (Below.refl _ _) _)))
                  | (go_at_call 21; with_reducible exact Calls.quiet_of (C2.out _ (below_drewN (Below.refl _ _) _)))))
                go_wp2_with fail
                have hD2 : (w5.drewN nq).heap[D2]? = some (.deferred (some [])) := HQ4.out.2.2.1
                have hD1 : ((w5.drewN nq).putObj D2 (.deferred none)).heap[D]? = some (.deferred (some [])) := (World.putObj_heap_other hDD.out.1).trans HP4.out.2.2.1
                refine ⟨by simp, .inl ⟨_, _, rfl, run_takeDeferred hD2, ⟨by simp, .inl ⟨_, _, rfl, run_takeDeferred hD1, ?_⟩⟩⟩⟩
                exact ⟨_, results_tmp rfl _ _ _, rfl, ((below_drewN HP4.out.2.2.2 nq).trans (belowK_b (w := w) (Nat.le_refl _) _ D2 _ _ hDD.out.2 hD2 rfl rfl)).trans (belowK_b (w := w) (Nat.le_refl _) _ D _ _ hwD hD1 rfl rfl)⟩
              · obtain ⟨rfl, hb1⟩ := HC.out.1 (by omega)
                have hx0 := HC.out.2 0 (by omega)
                obtain ⟨x0, HX0⟩ : ∃ x0, Hid (l.getD 0 ByteArray.empty = x0) := ⟨_, Lib.hid rfl⟩
                rw [HX0.out, Nat.add_zero] at hx0
                have hx0s : x0.size ≤ 300 := by rw [← HX0.out]; exact HJ.out.2 0 (by omega)
                have hxc := (HP4.out.2.2.2.cell (p := ⟨b1, o1, none⟩) hb1).trans hx0
                have hl0i : ((l.length : Int) == 0) = false := by rw [beq_eq_false_iff_ne]; omega
                have hl0j : (0 : Int) < (l.length : Int) := by omega
                have hl0n : 0 < l.length := by omega
                obtain ⟨y0, HY0⟩ : ∃ y0, Hid (cnt x0 = y0) := ⟨_, Lib.hid rfl⟩
                have K1 : Hid (∀ W : World, Calls Try.prog 18 #[.string x0] W fun e w' => e = .returned (.string y0) ∧ Below W.heap.size W w') := Lib.hid fun W => by
                  have h := Counted_any x0 W (by omega)
                  rw [HY0.out] at h
                  exact h
                have K2 : Hid (∀ W : World, Calls Try.prog 22 #[.string x0] W fun e w' => e = .returned (.string y0) ∧ Below W.heap.size W w') := Lib.hid fun W => by
                  have h := refCounted_any x0 W (by omega)
                  rw [HY0.out] at h
                  exact h
                have hy0 : (y0.toList == y0.toList) = true := by simp
                have hg1 : wa.heap.size < w5.heap.size := HP4.out.1.lt
                have hg2 : wr.heap.size < w5.heap.size := HQ4.out.1.lt
                have hg3 : b1 < w5.heap.size := Nat.lt_of_lt_of_le hb1 HP4.out.2.2.2.size
                have hbx := Below.refl w5.heap.size w5
                clear hx0 hl0 HC
                have G5 := Lib.hid (And.intro hgot (And.intro hback hxc))
                go_region_held3 (fun w' => w'.cell? ⟨wa.heap.size, 0, none⟩ = some v ∧ w'.cell? ⟨wr.heap.size, 0, none⟩ = some v2 ∧ w'.cell? ⟨b1, o1, none⟩ = some (.string x0)) (first | go_keep | exact ⟨hgot, hback, hxc⟩)
                  (first
                    | (go_at_call_of 21 v; refine (C1.out _ (by exact ⟨hbx.os, hbx.tape, hbx.output, hbx.size, hbx.block⟩)).mono ?_; rintro e w6 ⟨rfl, ⟨m6, rfl⟩⟩; have hbx := below_drewN hbx m6)
                    | (go_at_call_of 21 v2; refine (C2.out _ (by exact ⟨hbx.os, hbx.tape, hbx.output, hbx.size, hbx.block⟩)).mono ?_; rintro e w6 ⟨rfl, ⟨m6, rfl⟩⟩; have hbx := below_drewN hbx m6)
                    | (go_at_call 18; refine (K1.out _).mono ?_; rintro e w6 ⟨rfl, hbc⟩; have hbx := Below.trans (B := w5.heap.size) (a := w5) (by exact ⟨hbx.os, hbx.tape, hbx.output, hbx.size, hbx.block⟩) (hbc.mono hbx.size); have hgot := (hbx.cell (p := ⟨wa.heap.size, 0, none⟩) hg1).trans G5.out.1; have hback := (hbx.cell (p := ⟨wr.heap.size, 0, none⟩) hg2).trans G5.out.2.1; have hxc := (hbx.cell (p := ⟨b1, o1, none⟩) hg3).trans G5.out.2.2)
                    | (go_at_call 22; refine (K2.out _).mono ?_; rintro e w6 ⟨rfl, hbc⟩; have hbx := Below.trans (B := w5.heap.size) (a := w5) (by exact ⟨hbx.os, hbx.tape, hbx.output, hbx.size, hbx.block⟩) (hbc.mono hbx.size); have hgot := (hbx.cell (p := ⟨wa.heap.size, 0, none⟩) hg1).trans G5.out.1; have hback := (hbx.cell (p := ⟨wr.heap.size, 0, none⟩) hg2).trans G5.out.2.1; have hxc := (hbx.cell (p := ⟨b1, o1, none⟩) hg3).trans G5.out.2.2))
                all_goals
                  have HP6 := HP4.out.grow hbx
                  have HQ6 := HQ4.out.grow hbx
                  have HB6 := Lib.hid (And.intro HP6.2.2.1 (And.intro HP6.2.2.2 HQ6.2.2.1))
                  clear HP6 HQ6 hbx
                  go_wp2_with fail
                  refine ⟨by simp, .inl ⟨_, _, rfl, run_takeDeferred HB6.out.2.2, ⟨by simp, .inl ⟨_, _, rfl, run_takeDeferred ((World.putObj_heap_other hDD.out.1).trans HB6.out.1), ?_⟩⟩⟩⟩
                  exact ⟨_, results_tmp rfl _ _ _, rfl, (HB6.out.2.1.trans (belowK_b (w := w) (Nat.le_refl _) _ D2 _ _ hDD.out.2 HB6.out.2.2 rfl rfl)).trans (belowK_b (w := w) (Nat.le_refl _) _ D _ _ hwD ((World.putObj_heap_other hDD.out.1).trans HB6.out.1) rfl rfl)⟩
  · have hbig' : 2000 < a0.size ∨ 20 < l.length := by omega
    have hor : (decide ((2000 : Int) < (a0.size : Int)) || decide ((20 : Int) < (l.length : Int))) = true := by simp; omega
    rw [wpIn_wide]
    go_wp2_with fail
    refine (awake_any _).mono ?_
    rintro e wa ⟨rfl, hb0⟩
    go_wp2_with fail
    all_goals exact ⟨_, results_tmp rfl _ _ _, rfl, hb0⟩
end Go.Proofs.Ytioahofmjokbbaa
