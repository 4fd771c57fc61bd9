/- The statement of IdsTexts: whatever comes in, the law answers true, and what came in reads as it did. (In one text with what it leans on: IHex, IText, ICmp, IAwk, QuietL, OpenArr, ShelfR, IPars, IId, IRead, IRef, IRefP, IRefB, IVer, Laid4, Laid6, LiftS, IdsTextsW, IdsTexts.) -/
import Derived.Lib.BytesEntry
import Derived.BigQuiet
import Derived.DeepKeys
import Derived.OwnWalk
import Derived.Deep.MidRow
import Derived.ProofKit
import Derived.OpenShut
import Derived.Deep.DeepHandedRow
import Derived.Shelf.Strings.Builder2
import Derived.Shelf.LaysM
import Derived.Shelf.Strings.Replace
import Derived.Below
import Derived.WalkKit
import Derived.Lib.Replace
import Derived.Lib.CountLaws
import Derived.Lib.IndexBytes
import Derived.Laws.ResultCell
import Derived.Laws.Cover3
import Derived.SizedLaws
import Derived.Shelf.Vars
import Derived.LaidMore
import Derived.SevenTiedAt
import Derived.ShutString
import Derived.Lay
import Derived.Stop.Joined
import Derived.Test.YtdhplohppcndhaaGreatDoorBaseE
import Derived.Test.YtdhplohppcndhaaGreatDoorSText
import Derived.Test.YtdhplohppcndhaaGreatDoorSHash
import Derived.Test.YtdhplohppcndhaaGreatDoorAwk6
import Derived.Test.YtdhplohppcndhaaGreatDoorMem
import Derived.Test.YtdhplohppcndhaaGreatDoorRound
import Derived.Test.YtdhplohppcndhaaGreatDoorProg
import Derived.Test.YtdhplohppcndhaaGreatDoorBase
import Derived.Test.YtdhplohppcndhaaGreatDoorRefEnc
import Derived.Test.YtdhplohppcndhaaGreatDoorRefDec
import Derived.Test.YtdhplohppcndhaaGreatDoorLaid
import Derived.Test.YtdhplohppcndhaaGreatDoorRows
import Derived.Test.YtdhplohppcndhaaGreatDoorCards
import Derived.Test.YtdhplohppcndhaaGreatDoorTie
namespace Go.Proofs.YtdhplohppcndhaaGreatDoor
open Go.RowKit
set_option linter.unusedVariables false

/-- A digit's letter. -/
def hx (d : Nat) : UInt8 := hexS.data.toList.getD d 0
/-- The letters of bytes. -/
def hexL (l : List UInt8) : List UInt8 := l.flatMap fun b => [hx (b.toNat / 16), hx (b.toNat % 16)]
theorem hexL_nil : hexL [] = [] := rfl
theorem hexL_cons (b : UInt8) (l : List UInt8) : hexL (b :: l) = hx (b.toNat / 16) :: hx (b.toNat % 16) :: hexL l := rfl
theorem hexL_append (l m : List UInt8) : hexL (l ++ m) = hexL l ++ hexL m := by simp [hexL]
theorem hexL_length : ∀ l : List UInt8, (hexL l).length = 2 * l.length
  | [] => rfl
  | b :: l => by rw [hexL_cons, List.length_cons, List.length_cons, List.length_cons, hexL_length l]; omega

theorem dg16r : ∀ l : List UInt8, dg 16 (getL l.reverse) (2 * l.length) = l.reverse.flatMap fun b => [b.toNat / 16, b.toNat % 16]
  | [] => rfl
  | b :: l => by
    have hb := UInt8.toNat_lt b
    have ih := dg16r l
    rw [List.reverse_cons, getL_snoc, List.length_cons, show 2 * (l.length + 1) = (2 * l.length + 1) + 1 by omega, dg, dg, List.flatMap_append]
    rw [show (getL l.reverse * 256 + b.toNat) / 16 / 16 = getL l.reverse by omega, ih]
    rw [show (getL l.reverse * 256 + b.toNat) / 16 % 16 = b.toNat / 16 by omega, show (getL l.reverse * 256 + b.toNat) % 16 = b.toNat % 16 by omega]
    simp
theorem dg16 (l : List UInt8) : dg 16 (getL l) (2 * l.length) = l.flatMap fun b => [b.toNat / 16, b.toNat % 16] := by
  have h := dg16r l.reverse
  rwa [List.reverse_reverse, List.length_reverse] at h

theorem encL_hex (l : List UInt8) : encL hexS 4 false l = hexL l := by
  have h1 : mOf 4 l.length = 2 * l.length := by unfold mOf; omega
  have h2 : padOf 4 l.length = 0 := by unfold padOf; rw [h1]; omega
  have h3 : szA 4 false l.length = 2 * l.length := by
    simp only [szA, Bool.false_and, Bool.false_eq_true, if_false]; omega
  unfold encL encN
  rw [h1, h2, h3, Nat.sub_self, Nat.pow_zero, Nat.mul_one, show (2 : Nat) ^ 4 = 16 by rfl, dg16, List.replicate_zero, List.append_nil]
  unfold hexL
  induction l with
  | nil => rfl
  | cons b l ih => simp only [List.flatMap_cons, List.map_append, List.map_cons, List.map_nil]; rw [List.map_flatMap] ; simp [hx]
theorem encS_hex (s : ByteArray) : encS hexS 4 false s = ⟨(hexL s.data.toList).toArray⟩ := by unfold encS; rw [encL_hex]

/-- An id's text. -/
def idL (l : List UInt8) : List UInt8 := hexL (l.take 4) ++ 45 :: (hexL ((l.drop 4).take 2) ++ 45 :: (hexL ((l.drop 6).take 2) ++ 45 :: (hexL ((l.drop 8).take 2) ++ 45 :: hexL (l.drop 10))))
theorem idL_length (l : List UInt8) (h : l.length = 16) : (idL l).length = 36 := by
  unfold idL
  simp only [List.length_append, List.length_cons, hexL_length, List.length_take, List.length_drop, h]
  omega

/-- Of one size texts stand as their parts do. -/
theorem lt_append {a b c d : List UInt8} (h : a.length = b.length) : a ++ c < b ++ d ↔ a < b ∨ (a = b ∧ c < d) := by
  induction a generalizing b with
  | nil =>
    have : b = [] := List.eq_nil_of_length_eq_zero h.symm
    subst this
    simp
  | cons x a ih =>
    cases b with
    | nil => simp at h
    | cons y b =>
      have h' : a.length = b.length := by simpa using h
      rw [List.cons_append, List.cons_append, List.cons_lt_cons_iff, List.cons_lt_cons_iff, ih h']
      constructor
      · rintro (h1 | ⟨rfl, h1 | ⟨rfl, h2⟩⟩)
        · exact .inl (.inl h1)
        · exact .inl (.inr ⟨rfl, h1⟩)
        · exact .inr ⟨rfl, h2⟩
      · rintro ((h1 | ⟨rfl, h1⟩) | ⟨h1, h2⟩)
        · exact .inl h1
        · exact .inr ⟨rfl, .inl h1⟩
        · injection h1 with e1 e2
          subst e1; subst e2
          exact .inr ⟨rfl, .inr ⟨rfl, h2⟩⟩
theorem hx_lt : ∀ a, a < 16 → ∀ b, b < 16 → (hx a < hx b ↔ a < b) := by decide +kernel
theorem hx_inj : ∀ a, a < 16 → ∀ b, b < 16 → (hx a = hx b ↔ a = b) := by decide +kernel
theorem hx2_lt (x y : UInt8) : [hx (x.toNat / 16), hx (x.toNat % 16)] < [hx (y.toNat / 16), hx (y.toNat % 16)] ↔ x < y := by
  have h1 := UInt8.toNat_lt x
  have h2 := UInt8.toNat_lt y
  rw [List.cons_lt_cons_iff, List.cons_lt_cons_iff, hx_lt _ (by omega) _ (by omega), hx_inj _ (by omega) _ (by omega), hx_lt _ (by omega) _ (by omega), UInt8.lt_iff_toNat_lt]
  simp only [List.not_lt_nil, and_false, or_false]
  omega
theorem hx2_inj (x y : UInt8) : [hx (x.toNat / 16), hx (x.toNat % 16)] = [hx (y.toNat / 16), hx (y.toNat % 16)] ↔ x = y := by
  have h1 := UInt8.toNat_lt x
  have h2 := UInt8.toNat_lt y
  constructor
  · intro h
    injection h with e1 e2
    injection e2 with e2 _
    rw [hx_inj _ (by omega) _ (by omega)] at e1 e2
    exact UInt8.toNat_inj.1 (by omega)
  · rintro rfl; rfl
theorem hexL_lt : ∀ {a b : List UInt8}, a.length = b.length → (hexL a < hexL b ↔ a < b)
  | [], [], _ => by simp [hexL_nil]
  | [], _ :: _, h => by simp at h
  | _ :: _, [], h => by simp at h
  | x :: a, y :: b, h => by
    have ih := hexL_lt (a := a) (b := b) (by simpa using h)
    show [hx (x.toNat / 16), hx (x.toNat % 16)] ++ hexL a < [hx (y.toNat / 16), hx (y.toNat % 16)] ++ hexL b ↔ _
    rw [lt_append (by rfl), hx2_lt, hx2_inj, ih, List.cons_lt_cons_iff]
theorem hexL_inj : ∀ {a b : List UInt8}, hexL a = hexL b → a = b
  | [], [], _ => rfl
  | [], _ :: _, h => by simp [hexL_nil, hexL_cons] at h
  | _ :: _, [], h => by simp [hexL_nil, hexL_cons] at h
  | x :: a, y :: b, h => by
    rw [hexL_cons, hexL_cons] at h
    injection h with e1 e2
    injection e2 with e2 e3
    rw [hexL_inj e3, (hx2_inj x y).1 (by rw [e1, e2])]

/-- The parts of an id, one behind the other. -/
theorem parts_id (l : List UInt8) : l.take 4 ++ ((l.drop 4).take 2 ++ ((l.drop 6).take 2 ++ ((l.drop 8).take 2 ++ l.drop 10))) = l := by
  have e (n m : Nat) (X : List UInt8) (hX : X = l.drop (n + m)) : (l.drop n).take m ++ X = l.drop n := by
    rw [hX, ← List.drop_drop]; exact List.take_append_drop _ _
  rw [e 8 2 _ rfl, e 6 2 _ rfl, e 4 2 _ rfl]
  exact List.take_append_drop _ _
theorem idL_lt {a b : List UInt8} (ha : a.length = 16) (hb : b.length = 16) : idL a < idL b ↔ a < b := by
  have g (n m : Nat) : ((a.drop n).take m).length = ((b.drop n).take m).length := by rw [List.length_take, List.length_take, List.length_drop, List.length_drop, ha, hb]
  have gh (x y : List UInt8) (h : x.length = y.length) : (hexL x).length = (hexL y).length := by rw [hexL_length, hexL_length, h]
  have st (x y x' y' c d c' d' : List UInt8) (h : x.length = y.length) (hc : c < d ↔ c' < d') : hexL x ++ 45 :: c < hexL y ++ 45 :: d ↔ x ++ c' < y ++ d' := by
    rw [lt_append (gh x y h), lt_append h, List.cons_lt_cons_iff, hc, hexL_lt h]
    constructor
    · rintro (h1 | ⟨h1, h2 | ⟨_, h2⟩⟩)
      · exact .inl h1
      · exact absurd h2 (UInt8.lt_irrefl _)
      · exact .inr ⟨hexL_inj h1, h2⟩
    · rintro (h1 | ⟨rfl, h2⟩)
      · exact .inl h1
      · exact .inr ⟨rfl, .inr ⟨rfl, h2⟩⟩
  have e : idL a < idL b ↔ (a.take 4 ++ ((a.drop 4).take 2 ++ ((a.drop 6).take 2 ++ ((a.drop 8).take 2 ++ a.drop 10)))) < (b.take 4 ++ ((b.drop 4).take 2 ++ ((b.drop 6).take 2 ++ ((b.drop 8).take 2 ++ b.drop 10)))) := by
    unfold idL
    exact st _ _ [] [] _ _ _ _ (g 0 4) (st _ _ [] [] _ _ _ _ (g 4 2) (st _ _ [] [] _ _ _ _ (g 6 2) (st _ _ [] [] _ _ _ _ (g 8 2) (hexL_lt (by rw [List.length_drop, List.length_drop, ha, hb])))))
  rw [e, parts_id, parts_id]
theorem idL_inj {a b : List UInt8} (ha : a.length = 16) (hb : b.length = 16) (h : idL a = idL b) : a = b := by
  have g (n m : Nat) : (hexL ((a.drop n).take m)).length = (hexL ((b.drop n).take m)).length := by rw [hexL_length, hexL_length, List.length_take, List.length_take, List.length_drop, List.length_drop, ha, hb]
  unfold idL at h
  have h0 := List.append_inj h (g 0 4)
  have h1 := List.append_inj (List.cons.inj h0.2).2 (g 4 2)
  have h2 := List.append_inj (List.cons.inj h1.2).2 (g 6 2)
  have h3 := List.append_inj (List.cons.inj h2.2).2 (g 8 2)
  rw [← parts_id a, ← parts_id b, hexL_inj h0.1, hexL_inj h1.1, hexL_inj h2.1, hexL_inj h3.1, hexL_inj (List.cons.inj h3.2).2]
end Go.Proofs.YtdhplohppcndhaaGreatDoor

namespace Go.Proofs.YtdhplohppcndhaaGreatDoor
open Go.RowKit
set_option linter.unusedVariables false

/-- An array's row, sliced. -/
theorem slice_arr_lh {P : Program} (t e : TypeId) (n : Nat) (ht : P.underlying t = some (.array n e)) (hz : ∀ W, (sizeOf e).run P W = .ok 1 W) (g off l h : Nat) (hl : l ≤ h) (hh : h ≤ n) (hn : l < n) (W : World) :
    (Instr.sliceAt t (.pointer (some ⟨g, off, none⟩)) (some (.int .i64 (l : Int))) (some (.int .i64 (h : Int))) none).run P W = .ok (.slice (some ⟨g, off + l, none⟩) (h - l) (n - l)) W := by
  have hn' : P.arrayLen t = n := by simp [Program.arrayLen, ht]
  have he : P.elem t = e := by simp [Program.elem, ht]
  rw [run_sliceAt_array_lh (P := P) W t ⟨g, off, none⟩ (by rw [hn', he]; exact ht) .i64 .i64 (l : Int) (h : Int) (by omega) (by omega) (by rw [hn']; omega), he, hz, hn']
  have hadd : (⟨g, off, none⟩ : Addr).add l = ⟨g, off + l, none⟩ := by unfold Addr.add; split <;> simp_all
  simp only [Result.andThen_ok, slicedAt, Int.toNat_natCast, if_neg (by omega : ¬ n = l), Nat.mul_one, hadd]

def stN (k : Nat) : Nat := [0, 4, 6, 8, 10, 16].getD k 0
/-- The k-th part's letters. -/
def ptL (l : List UInt8) (k : Nat) : List UInt8 := (l.drop (stN k)).take (stN (k + 1) - stN k)
def ptS (l : List UInt8) (k : Nat) : ByteArray := ⟨(hexL (ptL l k)).toArray⟩
/-- The parts that are there, nothing behind. -/
def ptR (l : List UInt8) (k : Nat) : List Value := (List.range k).map (fun j => Value.string (ptS l j)) ++ List.replicate (5 - k) (.string ⟨#[]⟩)
theorem ptR_set (l : List UInt8) {k : Nat} (h : k < 5) : (ptR l k).set k (.string (ptS l k)) = ptR l (k + 1) := by
  rcases (by omega : k = 0 ∨ k = 1 ∨ k = 2 ∨ k = 3 ∨ k = 4) with rfl | rfl | rfl | rfl | rfl <;> rfl
theorem ptR_length (l : List UInt8) {k : Nat} (h : k ≤ 5) : (ptR l k).length = 5 := by unfold ptR; simp; omega
theorem stN_le {k : Nat} (h : k < 5) : stN k ≤ stN (k + 1) ∧ stN (k + 1) ≤ 16 ∧ stN k < 16 := by
  rcases (by omega : k = 0 ∨ k = 1 ∨ k = 2 ∨ k = 3 ∨ k = 4) with rfl | rfl | rfl | rfl | rfl <;> decide
def enA : Array Value := #[.int .i64 4, .int .i64 6, .int .i64 8, .int .i64 10, .int .i64 16]
theorem enA_get {k : Nat} (h : k < 5) : enA[k]? = some (.int .i64 ((stN (k + 1) : Nat) : Int)) := by
  rcases (by omega : k = 0 ∨ k = 1 ∨ k = 2 ∨ k = 3 ∨ k = 4) with rfl | rfl | rfl | rfl | rfl <;> rfl
theorem idL_join (l : List UInt8) (hl : l.length = 16) : Lib.join ([ptS l 0, ptS l 1, ptS l 2, ptS l 3, ptS l 4].map (·.data.toList)) [45] = idL l := by
  have h4 : ptL l 4 = l.drop 10 := by
    show (l.drop 10).take 6 = _
    exact List.take_of_length_le (by rw [List.length_drop, hl]; omega)
  have e : ∀ k, (ptS l k).data.toList = hexL (ptL l k) := fun k => rfl
  simp only [List.map_cons, List.map_nil, e, h4]
  unfold idL
  simp [Lib.join, ptL, stN]

set_option maxRecDepth 20000 in
set_option maxHeartbeats 4000000 in
theorem idText_any (l : List UInt8) (hl : l.length = 16) (w : World) :
    Calls Tryz.prog 6 #[.agg (l.map bv).toArray] w fun e w' => e = .returned (.string ⟨(idL l).toArray⟩) ∧ Below w.heap.size w w' := by
  obtain ⟨C, hC⟩ : ∃ C, l.map bv = C := ⟨_, rfl⟩
  rw [hC]
  have hr0 := (Row.new w 23 C).alloc (.cells (ptR l 0).toArray 38)
  have hr1 := Row.new (w.alloc (.cells C.toArray 23)) 38 (ptR l 0)
  rw [World.size_alloc] at hr1
  have hb0 : Below w.heap.size w ((w.alloc (.cells C.toArray 23)).alloc (.cells (ptR l 0).toArray 38)) := ((Below.refl _ _).alloc (Nat.le_refl _) _).alloc (by simp) _
  have H0 := Lib.hid (And.intro hr0 (And.intro hr1 hb0))
  have HC := Lib.hid hC
  clear hC hr0 hr1 hb0
  go_enter Tryz.func6, Tryz.ntmps6
  go_wp2_with fail
  obtain ⟨hr0, hr1, hb0⟩ := H0.out
  have ez : (ptR l 0).toArray = #[.string ⟨#[]⟩, .string ⟨#[]⟩, .string ⟨#[]⟩, .string ⟨#[]⟩, .string ⟨#[]⟩] := rfl
  rw [ez] at hr0 hr1 hb0
  generalize (w.alloc (.cells C.toArray 23)).alloc (.cells #[.string ⟨#[]⟩, .string ⟨#[]⟩, .string ⟨#[]⟩, .string ⟨#[]⟩, .string ⟨#[]⟩] 38) = w1 at hr0 hr1 hb0 ⊢
  clear H0 ez
  go_loopw [4, 8] (fun st i wr => ∃ k : Nat, k ≤ 5 ∧ i = .int .i64 k ∧ st = .int .i64 (stN k : Nat) ∧ Row wr w.heap.size 23 C ∧ Row wr (w.heap.size + 1) 38 (ptR l k) ∧ Below w.heap.size w wr) (fun _ i _ => 5 - (intOf i).toNat)
  case atStart => exact ⟨0, Nat.zero_le _, rfl, rfl, hr0, hr1, hb0⟩
  case round =>
    obtain ⟨k, hk, rfl, rfl, h0, h1, hb⟩ := hrel
    clear hr0 hr1 hb0
    by_cases hlt : k < 5
    · have hix := fun W' => run_index_agg (P := Tryz.prog) 39 3 5 enA k _ Tryz.underlying39 hlt (enA_get hlt) W' (Tryz.sizeOf3 W') (Tryz.isAgg3 W')
      unfold enA at hix
      obtain ⟨hs1, hs2, hs3⟩ := stN_le hlt
      have hE : Hid (∀ W : World, Calls Tryz.prog 20 #[alph hexS 4 false, .string ⟨(ptL l k).toArray⟩] W fun e w' => e = .returned (.string (ptS l k)) ∧ Below W.heap.size W w') := Lib.hid fun W => by
        have h := Encode_S hexS 4 false ⟨(ptL l k).toArray⟩ W (.inl rfl) rfl (by show (ptL l k).toArray.size ≤ _; rw [List.size_toArray]; unfold ptL; rw [List.length_take, List.length_drop]; omega)
        rwa [encS_hex] at h
      obtain ⟨a, ha⟩ : ∃ a, stN k = a := ⟨_, rfl⟩
      obtain ⟨b, hbn⟩ : ∃ b, stN (k + 1) = b := ⟨_, rfl⟩
      have hpl : ptL l k = (l.drop a).take (b - a) := by unfold ptL; rw [ha, hbn]
      rw [ha] at hs1 hs3
      rw [hbn] at hs1 hs2 hix
      have hsl := fun W => slice_arr_lh (P := Tryz.prog) 23 5 16 Tryz.underlying23 Tryz.sizeOf5 w.heap.size 0 a b hs1 hs2 hs3 W
      have hcv : ∀ W, Below wr.heap.size wr W → (convert 44 9 (.slice (some ⟨w.heap.size, a, none⟩) (b - a) (16 - a))).run Tryz.prog W = .ok (.string ⟨(ptL l k).toArray⟩) W := fun W hW =>
        conv_bytes (P := Tryz.prog) W 44 9 5 Tryz.underlying44 Tryz.underlying5 Tryz.underlying9 w.heap.size a (b - a) (16 - a) (ptL l k) (by rw [hpl, List.length_take, List.length_drop, hl]; omega) (fun i hi => by
          rw [(h0.below hW h0.lt).cell, ← HC.out, hpl, List.getElem?_map, List.getElem?_map, List.getElem?_take_of_lt hi, List.getElem?_drop])
      have HR := Lib.hid (And.intro h0 (And.intro h1 (And.intro hb (And.intro ha (And.intro hbn hcv)))))
      have hgl := h1.lt
      rw [ha]
      clear h0 h1 hb ha hbn hpl
      go_wp2_with fail
      refine region_tail 8 (Below wr.heap.size wr) (by kernel_rfl) (by kernel_rfl) rfl (below_drewN (Below.refl _ _) 1) ?_
      simp only [List.take_succ_cons, List.take_zero]
      repeat (go_big_quiet_step ((first
        | (intro hC; with_reducible rfl)
        | (intro hC; rw [hcv _ hC]; exact ⟨rfl, rfl⟩)
        | (intro hC; go_at_call 19; refine (Hex_any _).mono ?_; rintro e w'' ⟨rfl, hb⟩; exact ⟨rfl, hC.trans (hb.mono hC.size)⟩)
        | (intro hC; go_at_call 20; refine (hE.out _).mono ?_; rintro e w'' ⟨rfl, hb⟩; exact ⟨rfl, hC.trans (hb.mono hC.size)⟩))))
      refine wpQuiet_nil ?_
      intro w7 hw7
      have h0 := (HR.out.1.below hw7 HR.out.1.lt).far (p := ⟨w.heap.size + 1, k, none⟩) (by show w.heap.size ≠ w.heap.size + 1; omega) (.string (ptS l k))
      have h1 := (HR.out.2.1.below hw7 HR.out.2.1.lt).set k (.string (ptS l k))
      rw [ptR_set l hlt] at h1
      have hb := (HR.out.2.2.1.trans (hw7.mono HR.out.2.2.1.size)).setCell (p := ⟨w.heap.size + 1, k, none⟩) (by show w.heap.size ≤ w.heap.size + 1; omega) (.string (ptS l k))
      have hf0 := (HR.out.2.1.below hw7 HR.out.2.1.lt).frozen k
      obtain ⟨v0, hc0⟩ : ∃ v, w7.cell? ⟨w.heap.size + 1, k, none⟩ = some v := by
        rw [(HR.out.2.1.below hw7 HR.out.2.1.lt).cell]; exact ⟨_, List.getElem?_eq_getElem (by rw [ptR_length l hk]; exact hlt)⟩
      have HV := Lib.hid (And.intro h0 (And.intro h1 hb))
      clear h0 h1 hb hcv hsl hix hw7
      go_wp2
      go_roundw
      case rel => exact ⟨k + 1, by omega, by go_num, by rw [HR.out.2.2.2.2.1], HV.out.1, HV.out.2.1, HV.out.2.2⟩
      case measure => simp [intOf]; omega
    · have hk5 : k = 5 := by omega
      rw [hk5] at h1
      have hge : 5 ≤ k := by omega
      have hsl := fun W => slice_arr_all (P := Tryz.prog) 38 9 5 Tryz.underlying38 Tryz.sizeOf9 (w.heap.size + 1) 0 (by omega) W
      have hJ : Hid (∀ W : World, Row W (w.heap.size + 1) 38 (ptR l 5) → Calls Tryz.prog 21 #[.slice (some ⟨w.heap.size + 1, 0, none⟩) 5 5, .string ⟨#[45]⟩] W fun e w' => e = .returned (.string ⟨(idL l).toArray⟩) ∧ Below W.heap.size W w') := Lib.hid fun W hW => by
        have e := idL_join l hl
        have h := Tryz.strings_Join (w.heap.size + 1) 0 5 [ptS l 0, ptS l 1, ptS l 2, ptS l 3, ptS l 4] ⟨#[45]⟩ W (fun j x hx => by
          rw [Nat.zero_add, hW.cell]
          match j, hx with
          | 0, hx => cases hx; rfl
          | 1, hx => cases hx; rfl
          | 2, hx => cases hx; rfl
          | 3, hx => cases hx; rfl
          | 4, hx => cases hx; rfl) hW.lt (by simp) (by simp) (by show (Lib.join _ [45]).length ≤ _; rw [e, idL_length l hl]; omega)
        rw [show (ByteArray.mk #[45]).data.toList = [45] from rfl, e] at h
        exact h
      have HH := Lib.hid (And.intro h1 hb)
      clear h0 h1 hb hk5 hlt hk
      go_wp2_with (go_at_call 21; refine (hJ.out _ HH.out.1).mono ?_; rintro e w2 ⟨rfl, hb2⟩)
      go_ret
      exact ⟨rfl, HH.out.2.trans (hb2.mono HH.out.2.size)⟩
end Go.Proofs.YtdhplohppcndhaaGreatDoor

namespace Go.Proofs.YtdhplohppcndhaaGreatDoor
open Go.RowKit
set_option linter.unusedVariables false

theorem run_row_bytes {P : Program} {W : World} {g : Nat} {t : TypeId} {l : List UInt8} (h : Row W g t (l.map bv)) :
    (Extern.Bytes.loadBytes ⟨g, 0, none⟩ l.length .empty).run P W = .ok ⟨l.toArray⟩ W := by
  have h1 := Lib.run_loadBytesX (P := P) W (l.map fun x => (x.toNat : Int)) ⟨g, 0, none⟩ .empty (fun j x hx => by
    have e : (⟨g, 0, none⟩ : Addr).add j = ⟨g, j, none⟩ := by unfold Addr.add; split <;> simp_all
    rw [e, h.cell, List.getElem?_map]
    rw [List.getElem?_map] at hx
    cases hl : l[j]? with
    | none => rw [hl] at hx; cases hx
    | some y => rw [hl] at hx; cases hx; rfl)
  rw [List.length_map] at h1
  rw [h1]
  congr 1
  apply ByteArray.ext
  show #[] ++ (Lib.bytesOf _).toArray = l.toArray
  rw [Array.empty_append]
  congr 1
  unfold Lib.bytesOf
  rw [List.map_map]
  conv => rhs; rw [← List.map_id l]
  apply List.map_congr_left
  intro c _
  simp
theorem run_compare {W : World} {g g' : Nat} {t t' : TypeId} {l m : List UInt8} (h : Row W g t (l.map bv)) (h' : Row W g' t' (m.map bv)) :
    (callFunc 44 #[.slice (some ⟨g, 0, none⟩) l.length l.length, .slice (some ⟨g', 0, none⟩) m.length m.length]).run Tryz.prog W = .ok (.value (.int .i64 (Lib.compareBytes l m))) W := by
  have e := run_callFunc_extern (P := Tryz.prog) (f := 44) (fn := Tryz.f44) (e := Extern.BytealgCompare.compare) (by kernel_rfl) (by kernel_rfl) (by kernel_rfl) (by kernel_rfl) (by kernel_rfl) #[.slice (some ⟨g, 0, none⟩) l.length l.length, .slice (some ⟨g', 0, none⟩) m.length m.length] W
  have hr : (Extern.BytealgCompare.compare #[.slice (some ⟨g, 0, none⟩) l.length l.length, .slice (some ⟨g', 0, none⟩) m.length m.length]).run Tryz.prog W = .ok (.int .i64 (Lib.compareBytes l m)) W := by
    change Sem.run Tryz.prog (do pure (goInt (Extern.BytealgCompare.cmp (← Extern.Bytes.bytesOf (.slice (some ⟨g, 0, none⟩) l.length l.length)) (← Extern.Bytes.bytesOf (.slice (some ⟨g', 0, none⟩) m.length m.length))))) W = _
    simp only [Extern.Bytes.bytesOf, Sem.run_bind, Sem.run_pure, Result.andThen, run_row_bytes h, run_row_bytes h']
    rw [Lib.cmp_eq]
    rfl
  rw [hr] at e
  rw [e]
  rfl

theorem cmpB_cons (x y : UInt8) (a b : List UInt8) : Lib.compareBytes (x :: a) (y :: b) = if x < y then -1 else if y < x then 1 else Lib.compareBytes a b := by rw [Lib.compareBytes]
theorem compareBytes_lt : ∀ (a b : List UInt8), Lib.compareBytes a b < 0 ↔ a < b
  | [], [] => by simp [Lib.compareBytes]
  | [], _ :: _ => by simp [Lib.compareBytes]
  | _ :: _, [] => by simp [Lib.compareBytes]
  | x :: a, y :: b => by
    have ih := compareBytes_lt a b
    rw [List.cons_lt_cons_iff, ← ih, cmpB_cons]
    by_cases h : x < y
    · simp [h]
    · by_cases h2 : y < x
      · rw [if_neg h, if_pos h2]
        have hn : x ≠ y := fun e => by subst e; exact UInt8.lt_irrefl _ h2
        simp [h, hn]
      · have e : x = y := UInt8.le_antisymm (UInt8.not_lt.1 h2) (UInt8.not_lt.1 h)
        rw [if_neg h, if_neg h2]
        subst e
        simp
theorem compareBytes_eq : ∀ (a b : List UInt8), Lib.compareBytes a b = 0 ↔ a = b
  | [], [] => by simp [Lib.compareBytes]
  | [], _ :: _ => by simp [Lib.compareBytes]
  | _ :: _, [] => by simp [Lib.compareBytes]
  | x :: a, y :: b => by
    have ih := compareBytes_eq a b
    rw [List.cons.injEq, ← ih, cmpB_cons]
    by_cases h : x < y
    · have hn : x ≠ y := fun e => by subst e; exact UInt8.lt_irrefl _ h
      simp [h, hn]
    · by_cases h2 : y < x
      · rw [if_neg h, if_pos h2]
        have hn : x ≠ y := fun e => by subst e; exact UInt8.lt_irrefl _ h2
        simp [hn]
      · have e : x = y := UInt8.le_antisymm (UInt8.not_lt.1 h2) (UInt8.not_lt.1 h)
        rw [if_neg h, if_neg h2]
        subst e
        simp
theorem compareBytes_neg : ∀ (a b : List UInt8), Lib.compareBytes a b = - Lib.compareBytes b a
  | [], [] => by simp [Lib.compareBytes]
  | [], _ :: _ => by simp [Lib.compareBytes]
  | _ :: _, [] => by simp [Lib.compareBytes]
  | x :: a, y :: b => by
    have ih := compareBytes_neg a b
    rw [cmpB_cons, cmpB_cons]
    by_cases h : x < y
    · have h2 : ¬ y < x := fun h2 => UInt8.lt_irrefl _ (UInt8.lt_trans h h2)
      rw [if_pos h, if_neg h2, if_pos h]
    · by_cases h2 : y < x
      · rw [if_neg h, if_pos h2, if_pos h2]
        rfl
      · rw [if_neg h, if_neg h2, if_neg h2, if_neg h, ih]
theorem compareBytes_bound : ∀ (a b : List UInt8), -1 ≤ Lib.compareBytes a b ∧ Lib.compareBytes a b ≤ 1
  | [], [] => by simp [Lib.compareBytes]
  | [], _ :: _ => by simp [Lib.compareBytes]
  | _ :: _, [] => by simp [Lib.compareBytes]
  | x :: a, y :: b => by
    have ih := compareBytes_bound a b
    rw [cmpB_cons]
    split
    · omega
    · split
      · omega
      · exact ih

set_option maxRecDepth 20000 in
theorem Compare_any (l m : List UInt8) (hl : l.length = 16) (hm : m.length = 16) (g g' : Nat) (t t' : TypeId) (w : World) (h : Row w g t (l.map bv)) (h' : Row w g' t' (m.map bv)) :
    Calls Tryz.prog 29 #[.slice (some ⟨g, 0, none⟩) 16 16, .slice (some ⟨g', 0, none⟩) 16 16] w fun e w' => e = .returned (.int .i64 (Lib.compareBytes l m)) ∧ w = w' := by
  have hx := run_compare h h'
  rw [hl, hm] at hx
  obtain ⟨c, hc⟩ : ∃ c, Lib.compareBytes l m = c := ⟨_, rfl⟩
  rw [hc] at hx ⊢
  clear hc h h' hl hm
  go_enter Tryz.func29, Tryz.ntmps29
  go_wp2
  go_ret
  exact ⟨rfl, rfl⟩

set_option maxRecDepth 20000 in
set_option maxHeartbeats 1000000 in
theorem Cmp_any (l m : List UInt8) (hl : l.length = 16) (hm : m.length = 16) (w : World) :
    Calls Tryz.prog 12 #[.agg (l.map bv).toArray, .agg (m.map bv).toArray] w fun e w' => e = .returned (.int .i64 (Lib.compareBytes l m)) ∧ Below w.heap.size w w' := by
  have hr0 := (Row.new w 23 (l.map bv)).alloc (.cells (m.map bv).toArray 23)
  have hr1 := Row.new (w.alloc (.cells (l.map bv).toArray 23)) 23 (m.map bv)
  rw [World.size_alloc] at hr1
  have hb0 : Below w.heap.size w ((w.alloc (.cells (l.map bv).toArray 23)).alloc (.cells (m.map bv).toArray 23)) := ((Below.refl _ _).alloc (Nat.le_refl _) _).alloc (by simp) _
  have HK : Hid (∀ W : World, Below ((w.alloc (.cells (l.map bv).toArray 23)).alloc (.cells (m.map bv).toArray 23)).heap.size ((w.alloc (.cells (l.map bv).toArray 23)).alloc (.cells (m.map bv).toArray 23)) W → Calls Tryz.prog 29 #[.slice (some ⟨w.heap.size, 0, none⟩) 16 16, .slice (some ⟨w.heap.size + 1, 0, none⟩) 16 16] W fun e w' => e = .returned (.int .i64 (Lib.compareBytes l m)) ∧ W = w') := Lib.hid fun W hW => Compare_any l m hl hm _ _ _ _ W (hr0.below hW hr0.lt) (hr1.below hW hr1.lt)
  have hsl0 := fun W => slice_arr_all (P := Tryz.prog) 23 5 16 Tryz.underlying23 Tryz.sizeOf5 w.heap.size 0 (by omega) W
  have hsl1 := fun W => slice_arr_all (P := Tryz.prog) 23 5 16 Tryz.underlying23 Tryz.sizeOf5 (w.heap.size + 1) 0 (by omega) W
  obtain ⟨C, hC⟩ : ∃ C, l.map bv = C := ⟨_, rfl⟩
  obtain ⟨D, hD⟩ : ∃ D, m.map bv = D := ⟨_, rfl⟩
  obtain ⟨c, hc⟩ : ∃ c, Lib.compareBytes l m = c := ⟨_, rfl⟩
  rw [hC, hD] at hr0 hr1 hb0 HK ⊢
  rw [hc] at HK ⊢
  have HB := Lib.hid hb0
  clear hr0 hr1 hb0 hC hD hc hl hm
  go_enter Tryz.func12, Tryz.ntmps12
  go_wp2_with fail
  generalize (w.alloc (.cells C.toArray 23)).alloc (.cells D.toArray 23) = w1 at HK HB ⊢
  refine region_quiet_lit (Below w1.heap.size w1) (by kernel_rfl) (by kernel_rfl) (below_drewN (Below.refl _ _) 1) ?_
  repeat (go_big_quiet_step ((first
    | (intro hC; with_reducible rfl)
    | (intro hC; go_at_call 29; refine (HK.out _ hC).mono ?_; rintro e w'' ⟨rfl, rfl⟩; exact ⟨rfl, hC⟩))))
  refine wpQuiet_nil ?_
  intro w2 hw2
  clear hsl0 hsl1
  go_wp2
  go_ret
  exact ⟨rfl, HB.out.trans (hw2.mono HB.out.size)⟩
end Go.Proofs.YtdhplohppcndhaaGreatDoor

namespace Go.Proofs.YtdhplohppcndhaaGreatDoor
open Go.RowKit
set_option linter.unusedVariables false

theorem Awake6_any (w : World) (hG : G w) :
    Calls Tryz.prog 18 #[] w fun e w' => e = .returned (.bool true) ∧ Below w.heap.size w w' := by
  have HG := Lib.hid hG
  clear hG
  go_enter Tryz.func18, Tryz.ntmps18
  go_wp2_with fail
  refine (awake6_any _ HG.out).mono ?_
  rintro e wa ⟨rfl, hb⟩
  go_wp2_with fail
  go_ret
  exact ⟨rfl, hb⟩
def zeroId : ByteArray := ⟨#[48, 48, 48, 48, 48, 48, 48, 48, 45, 48, 48, 48, 48, 45, 48, 48, 48, 48, 45, 48, 48, 48, 48, 45, 48, 48, 48, 48, 48, 48, 48, 48, 48, 48, 48, 48]⟩
theorem zero_eq : (zeroId.toList == [48, 48, 48, 48, 48, 48, 48, 48, 45, 48, 48, 48, 48, 45, 48, 48, 48, 48, 45, 48, 48, 48, 48, 45, 48, 48, 48, 48, 48, 48, 48, 48, 48, 48, 48, 48]) = true := by decide +kernel
theorem zero_id : (⟨(idL (List.replicate 16 0)).toArray⟩ : ByteArray) = zeroId := by decide +kernel
def zA : Array Value := #[.int .u8 0, .int .u8 0, .int .u8 0, .int .u8 0, .int .u8 0, .int .u8 0, .int .u8 0, .int .u8 0, .int .u8 0, .int .u8 0, .int .u8 0, .int .u8 0, .int .u8 0, .int .u8 0, .int .u8 0, .int .u8 0]
theorem zA_eq : zA = ((List.replicate 16 (0 : UInt8)).map bv).toArray := by rfl

set_option maxRecDepth 20000 in
set_option maxHeartbeats 1000000 in
theorem awake10_any (w : World) (hG : G w) :
    Calls Tryz.prog 5 #[] w fun e w' => e = .returned (.bool true) ∧ Below w.heap.size w w' := by
  have HT : Hid (∀ W : World, Calls Tryz.prog 6 #[.agg zA] W fun e w' => e = .returned (.string zeroId) ∧ Below W.heap.size W w') := Lib.hid fun W => by
    rw [← zero_id, zA_eq]
    exact idText_any _ rfl W
  have HG := Lib.hid hG
  clear hG
  go_enter Tryz.func5, Tryz.ntmps5
  go_wp2_with fail
  refine (Awake2_any _).mono ?_
  rintro e w1 ⟨rfl, hb1⟩
  go_wp2_with fail
  refine (Awake6_any _ (HG.out.below hb1)).mono ?_
  rintro e w2 ⟨rfl, hb2⟩
  have hB2 := hb1.trans (hb2.mono hb1.size)
  clear hb1 hb2
  go_wp2_with fail
  refine (HT.out _).mono ?_
  rintro e w3 ⟨rfl, hb3⟩
  have hB3 := hB2.trans (hb3.mono hB2.size)
  clear hB2 hb3
  have hz := zero_eq
  go_wp2_with fail
  go_ret
  exact ⟨rfl, hB3⟩
end Go.Proofs.YtdhplohppcndhaaGreatDoor

namespace Go.Proofs.YtdhplohppcndhaaGreatDoor
open Go.RowKit
set_option linter.unusedVariables false

section
variable {P : Program} {ops : Array Oper} {C : World → Prop} {Q : Act → Prop} {a : Act} {o : Oper} {rest : List Oper}
theorem quiet_load_row {K : Act → Prop} (ty : TypeId) (x : Operand) (ho : o.op = .load ty x) (g : Nat) (hx : a.eval x = .pointer (some ⟨g, 0, none⟩)) (t : TypeId) (cs : List Value) (d : TypeDesc) (hS : ∀ w, C w → Row w g t cs)
    (hu : P.underlying ty = some d) (hd : d.isRow = true) (hi : (P.info? ty).map (·.size) = some cs.length) (hk : K (a.put o.dst (.agg cs.toArray))) : o.quiet P a C K :=
  ⟨_, fun w hw => by
    have hr : w.rangeAt g 0 cs := fun j v hj => by rw [Nat.zero_add, (hS w hw).cell]; exact hj
    unfold Oper.quietAt execOp
    simp only [ho, hx, Instr.loadAt, Instr.sureAddr, Sem.run_bind, Sem.run_pure, Result.andThen_ok, run_loadVar_mid w g 0 ty cs d hr hu hd hi]
    exact ⟨rfl, rfl⟩, hk⟩
theorem quiet_eql_agg {K : Act → Prop} (t : TypeId) (x y : Operand) (t2 : TypeId) (ho : o.op = .binOp .eql t x y t2)
    (cs ds : Array Value) (hx : a.eval x = .agg cs) (hy : a.eval y = .agg ds) (hm : P.eqGuardType P.depth t = false) (r : Bool) (he : ∀ W, (binOp .eql t (.agg cs) (.agg ds)).run P W = .ok (.bool r) W) (hk : K (a.put o.dst (.bool r))) : o.quiet P a C K :=
  ⟨_, fun w hw => by
    unfold Oper.quietAt execOp
    simp only [ho, hx, hy, Sem.run_bind, run_eqGuard_agg w .eql t x y cs ds hm, he, Result.andThen_ok, Sem.run_pure]
    exact ⟨rfl, rfl⟩, hk⟩
end

theorem items_bytes {P : Program} (W : World) (d : Nat) (e : TypeId) (l m : List UInt8) (he : P.underlying e = some (.int .u8)) (ha : (isAgg e).run P W = .ok false W) :
    ∀ is : List Nat, (∀ i ∈ is, i < l.length ∧ i < m.length) → (Op.eqItems (d + 1) e 1 (l.map bv).toArray (m.map bv).toArray is).run P W = .ok (decide (∀ i ∈ is, l[i]? = m[i]?)) W
  | [], _ => by simp [Op.eqItems]
  | i :: is, h => by
    obtain ⟨h1, h2⟩ := h i (by simp)
    have ih := items_bytes W d e l m he ha is (fun j hj => h j (by simp [hj]))
    have hp : (part e (l.map bv).toArray (i * 1)).run P W = .ok (.int .u8 (l[i].toNat : Int)) W := by
      simp only [part, Sem.run_bind, ha, Result.andThen_ok, Nat.mul_one, Bool.false_eq_true, if_false, List.getElem?_toArray, List.getElem?_map, List.getElem?_eq_getElem h1, Option.map_some, bv, Sem.run_pure]
    have hq : (part e (m.map bv).toArray (i * 1)).run P W = .ok (.int .u8 (m[i].toNat : Int)) W := by
      simp only [part, Sem.run_bind, ha, Result.andThen_ok, Nat.mul_one, Bool.false_eq_true, if_false, List.getElem?_toArray, List.getElem?_map, List.getElem?_eq_getElem h2, Option.map_some, bv, Sem.run_pure]
    simp only [Op.eqItems, Sem.run_bind, hp, hq, Result.andThen_ok, run_equalIn_int W d e .u8 .u8 _ _ he]
    by_cases hb : l[i] = m[i]
    · have e1 : l[i]? = m[i]? := by rw [List.getElem?_eq_getElem h1, List.getElem?_eq_getElem h2, hb]
      simp [hb, ih, e1]
    · have e1 : ¬ l[i]? = m[i]? := by rw [List.getElem?_eq_getElem h1, List.getElem?_eq_getElem h2]; simpa using hb
      have e2 : ¬ ((l[i].toNat : Int) = (m[i].toNat : Int)) := fun h => hb (UInt8.toNat_inj.1 (by omega))
      simp [e1, e2]
theorem arr_equalIn {P : Program} (t e : TypeId) (n : Nat) (l m : List UInt8) (hl : l.length = n) (hm : m.length = n) (ht : P.underlying t = some (.array n e)) (he : P.underlying e = some (.int .u8)) (ha : ∀ W, (isAgg e).run P W = .ok false W)
    (i : TypeInfo) (hi : P.info? e = some i) (hc : P.cellsOf e = 1) (W : World) :
    (Op.equalIn 10000 t (.agg (l.map bv).toArray) (.agg (m.map bv).toArray)).run P W = .ok (decide (l = m)) W := by
  rw [run_equalIn_array W 9999 _ _ ht hi, hc]
  rw [items_bytes W 9998 e l m he (ha W) _ (fun j hj => by
    have hj2 := List.mem_range.1 hj
    omega)]
  have e1 : decide (∀ i ∈ List.range n, l[i]? = m[i]?) = decide (l = m) := decide_eq_decide.2 ⟨fun h => List.ext_getElem? fun j => by
      by_cases hj : j < n
      · exact h j (List.mem_range.2 hj)
      · rw [List.getElem?_eq_none (by omega), List.getElem?_eq_none (by omega)], fun h => by subst h; intros; rfl⟩
  rw [e1]
theorem arr_eql {P : Program} (t e : TypeId) (n : Nat) (l m : List UInt8) (hl : l.length = n) (hm : m.length = n) (ht : P.underlying t = some (.array n e)) (he : P.underlying e = some (.int .u8)) (ha : ∀ W, (isAgg e).run P W = .ok false W)
    (i : TypeInfo) (hi : P.info? e = some i) (hc : P.cellsOf e = 1) (W : World) :
    (binOp .eql t (.agg (l.map bv).toArray) (.agg (m.map bv).toArray)).run P W = .ok (.bool (decide (l = m))) W := by
  rw [run_eql_struct, arr_equalIn t e n l m hl hm ht he ha i hi hc W]
  rfl
end Go.Proofs.YtdhplohppcndhaaGreatDoor

namespace Go.Proofs.YtdhplohppcndhaaGreatDoor
open Go.ChangeShapes Go.WideShapes Go.RowKit
set_option linter.unusedVariables false

section
variable {H : Type} {enc : TypeId × Value → H} {P : Program} {W : World} {base : Nat} {sp : Nat → Bool} {held : Bool}
def unbv : Value → UInt8
  | .int _ n => UInt8.ofNat n.toNat
  | _ => 0
theorem mapM_bytes {e : TypeId} (he : P.underlying e = some (.int .u8)) {m : Nat} {cs : List Value} : ∀ (L : List Nat) (xs : List (DataW H × List MemPlace)),
    L.mapM (fun i => DataW.trod enc P W base sp held m e ((cs.drop (i * 1)).take 1)) = some xs → ∀ i ∈ L, ∃ c : UInt8, (cs.drop (i * 1)).take 1 = [bv c]
  | [], xs, h => by simp
  | i :: L, xs, h => by
    rw [List.mapM_cons] at h
    simp only [bind, Option.bind_eq_some_iff, pure, Option.some.injEq] at h
    obtain ⟨y, hy, ys, hys, rfl⟩ := h
    have ih := mapM_bytes he L ys hys
    obtain ⟨a, ea, rfl, wa⟩ := DataW.trod_int he hy
    have hr : 0 ≤ a ∧ a ≤ 255 := by simpa [Lit.wf, IntKind.min, IntKind.max, IntKind.signed, IntKind.bits] using wa
    intro j hj
    rcases List.mem_cons.1 hj with rfl | hj
    · refine ⟨UInt8.ofNat a.toNat, ?_⟩
      rw [ea]
      unfold bv
      have e1 : ((UInt8.ofNat a.toNat).toNat : Int) = a := by rw [UInt8.toNat_ofNat']; omega
      rw [e1]
    · exact ih j hj
theorem open_bytes {t e : TypeId} {n : Nat} {v : Value} {d : DataW H} {ps : List MemPlace} (ht : P.underlying t = some (.array n e)) (he : P.underlying e = some (.int .u8)) (hc : P.cellsOf t = n) (h1 : P.cellsOf e = 1)
    {r : Reach} {b0 : Nat} (hv : Value.okWide P W r b0 t v) (hd : DataW.Trod enc P W base sp held t v d ps) : ∃ l : List UInt8, l.length = n ∧ v = .agg (l.map bv).toArray := by
  simp only [Value.okWide, ht] at hv
  obtain ⟨xs, rfl, hn, _⟩ := hv
  rw [hc] at hn
  obtain ⟨fuel, hf⟩ := hd
  cases fuel with
  | zero => simp [DataW.trod] at hf
  | succ m =>
    rw [DataW.trod_step] at hf
    unfold DataW.trodStep at hf
    simp only [ht, Value.cells] at hf
    split at hf
    · simp only [Option.map_eq_some_iff, h1] at hf
      obtain ⟨ys, hy, e1⟩ := hf
      have hk := mapM_bytes he _ ys hy
      refine ⟨xs.toList.map unbv, by simpa using hn, ?_⟩
      congr 1
      apply Array.ext'
      rw [List.map_map]
      conv => lhs; rw [← List.map_id xs.toList]
      apply List.map_congr_left
      intro x hx
      obtain ⟨i, hi, rfl⟩ := List.getElem_of_mem hx
      obtain ⟨c, hc'⟩ := hk i (by simp at hi ⊢; omega)
      have e2 : xs.toList[i] = bv c := by
        have h3 : ((xs.toList.drop (i * 1)).take 1)[0]? = some (bv c) := by rw [hc']; rfl
        rw [List.getElem?_take_of_lt (by omega), List.getElem?_drop, Nat.mul_one, Nat.add_zero, List.getElem?_eq_getElem hi] at h3
        exact Option.some.inj h3
      rw [e2]
      show bv c = bv (unbv (bv c))
      unfold unbv bv
      simp
    · cases hf
end
end Go.Proofs.YtdhplohppcndhaaGreatDoor

namespace Go.Proofs.YtdhplohppcndhaaGreatDoor
open Go Go.Shelf Go.RowKit
def Tryz.lays155_ren : Go.Shelf.Ren := ⟨fun | 155 => 23 | 154 => 39 | 138 => 55 | 165 => 35 | 143 => 56 | 166 => 36 | 197 => 57 | 169 => 37 | 195 => 68 | 218 => 69 | 240 => 52 | 241 => 53 | 219 => 70 | 260 => 71 | 276 => 65 | 277 => 66 | 217 => 67 | 225 => 82 | 224 => 83 | 267 => 84 | 266 => 81 | 314 => 94 | n => n, fun | 9 => 9 | 3 => 3 | 4 => 4 | 72 => 60 | 0 => 0 | 76 => 64 | 105 => 76 | 21 => 21 | 5 => 5 | 70 => 58 | 20 => 20 | 37 => 44 | 75 => 63 | 127 => 74 | 164 => 83 | 46 => 53 | 119 => 99 | 139 => 102 | 138 => 101 | 146 => 112 | 51 => 93 | 80 => 66 | n => n, fun | 1 => 0 | 3 => 1 | 4 => 2 | n => n⟩
theorem Tryz.lays155 : Go.Proofs.Lays.n155 Tryz.prog Tryz.lays155_ren := {
  mixed := by kernel_rfl
  f138 := Tryz.func55.trans (congrArg some (by kernel_rfl))
  f143 := Tryz.func56.trans (congrArg some (by kernel_rfl))
  f154 := Tryz.func39.trans (congrArg some (by kernel_rfl))
  f155 := Tryz.func23.trans (congrArg some (by kernel_rfl))
  f165 := Tryz.func35.trans (congrArg some (by kernel_rfl))
  f166 := Tryz.func36.trans (congrArg some (by kernel_rfl))
  f169 := Tryz.func37.trans (congrArg some (by kernel_rfl))
  f195 := Tryz.func68.trans (congrArg some (by kernel_rfl))
  f197 := Tryz.func57.trans (congrArg some (by kernel_rfl))
  f217 := Tryz.func67.trans (congrArg some (by kernel_rfl))
  f218 := Tryz.func69.trans (congrArg some (by kernel_rfl))
  f219 := Tryz.func70.trans (congrArg some (by kernel_rfl))
  f224 := Tryz.func83.trans (congrArg some (by kernel_rfl))
  f225 := Tryz.func82.trans (congrArg some (by kernel_rfl))
  f240 := Tryz.func52.trans (congrArg some (by kernel_rfl))
  f241 := Tryz.func53.trans (congrArg some (by kernel_rfl))
  f260 := Tryz.func71.trans (congrArg some (by kernel_rfl))
  f266 := Tryz.func81.trans (congrArg some (by kernel_rfl))
  f267 := Tryz.func84.trans (congrArg some (by kernel_rfl))
  f276 := Tryz.func65.trans (congrArg some (by kernel_rfl))
  f277 := Tryz.func66.trans (congrArg some (by kernel_rfl))
  f314 := Tryz.func94.trans (congrArg some (by kernel_rfl))
  t0 := Tryz.underlying0
  a0 := Tryz.isAgg0
  z0 := Tryz.sizeOf0
  v0 := Tryz.zeroValue0
  t3 := Tryz.underlying3
  a3 := Tryz.isAgg3
  z3 := Tryz.sizeOf3
  v3 := Tryz.zeroValue3
  t4 := Tryz.underlying4
  a4 := Tryz.isAgg4
  z4 := Tryz.sizeOf4
  v4 := Tryz.zeroValue4
  t5 := Tryz.underlying5
  a5 := Tryz.isAgg5
  z5 := Tryz.sizeOf5
  v5 := Tryz.zeroValue5
  t9 := Tryz.underlying9
  a9 := Tryz.isAgg9
  z9 := Tryz.sizeOf9
  v9 := Tryz.zeroValue9
  t20 := Tryz.underlying20
  a20 := Tryz.isAgg20
  z20 := Tryz.sizeOf20
  v20 := Tryz.zeroValue20
  t21 := Tryz.underlying21
  a21 := Tryz.isAgg21
  z21 := Tryz.sizeOf21
  v21 := Tryz.zeroValue21
  t37 := Tryz.underlying44
  a37 := Tryz.isAgg44
  z37 := Tryz.sizeOf44
  v37 := Tryz.zeroValue44
  t46 := Tryz.underlying53
  a46 := Tryz.isAgg53
  z46 := Tryz.sizeOf53
  v46 := Tryz.zeroValue53
  t51 := Tryz.underlying93
  a51 := Tryz.isAgg93
  z51 := Tryz.sizeOf93
  v51 := Tryz.zeroValue93
  t70 := Tryz.underlying58
  a70 := Tryz.isAgg58
  z70 := Tryz.sizeOf58
  v70 := Tryz.zeroValue58
  t72 := Tryz.underlying60
  a72 := Tryz.isAgg60
  z72 := Tryz.sizeOf60
  v72 := Tryz.zeroValue60
  t75 := Tryz.underlying63
  a75 := Tryz.isAgg63
  z75 := Tryz.sizeOf63
  v75 := Tryz.zeroValue63
  t76 := Tryz.underlying64
  a76 := Tryz.isAgg64
  z76 := Tryz.sizeOf64
  v76 := Tryz.zeroValue64
  t105 := Tryz.underlying76
  a105 := Tryz.isAgg76
  z105 := Tryz.sizeOf76
  v105 := Tryz.zeroValue76
  t119 := Tryz.underlying99
  a119 := Tryz.isAgg99
  z119 := Tryz.sizeOf99
  t127 := Tryz.underlying74
  a127 := Tryz.isAgg74
  z127 := Tryz.sizeOf74
  v127 := Tryz.zeroValue74
  t138 := Tryz.underlying101
  a138 := Tryz.isAgg101
  z138 := Tryz.sizeOf101
  v138 := Tryz.zeroValue101
  t139 := Tryz.underlying102
  a139 := Tryz.isAgg102
  z139 := Tryz.sizeOf102
  v139 := Tryz.zeroValue102
  t146 := Tryz.underlying112
  a146 := Tryz.isAgg112
  z146 := Tryz.sizeOf112
  v146 := Tryz.zeroValue112
  t164 := Tryz.underlying83
  a164 := Tryz.isAgg83
  z164 := Tryz.sizeOf83
  v164 := Tryz.zeroValue83
  g1 := by kernel_rfl
  g3 := by kernel_rfl
  g4 := by kernel_rfl }
theorem Tryz.Builder_Extra_155 : Builder.Extra Tryz.prog Tryz.lays155_ren := {
  sizeBuilder := by kernel_rfl
  liesBuilder := by kernel_rfl
  t5 := Tryz.underlying5
  a5 := Tryz.isAgg5
  z5 := Tryz.sizeOf5
  v5 := Tryz.zeroValue5
  infoByte := by kernel_rfl
  cellsByte := by kernel_rfl
  sizeByte := by kernel_rfl
  neB5 := by decide }
open Go.RowKit Go.Lib in
theorem Tryz.strings_ReplaceAll (s old new : ByteArray) (m : Int) (w : World) (hs : s.size < 4294967281) (hm : w.cell? ⟨0, 0, none⟩ = some (.int .i64 m)) (h1 : 1 ≤ old.size) (hlen : s.size + Lib.countB s old * new.size ≤ 140737488355328) :
    Calls Tryz.prog 23 #[.string s, .string old, .string new] w fun e w' =>
      e = .returned (.string ⟨(Lib.replaceAll s.data.toList old.data.toList new.data.toList).toArray⟩) ∧ Below w.heap.size w w' := Any.strings_ReplaceAll Tryz.lays155 Tryz.Builder_Extra_155 s old new m w hs hm h1 hlen
end Go.Proofs.YtdhplohppcndhaaGreatDoor

namespace Go.Proofs.YtdhplohppcndhaaGreatDoor
open Go.RowKit
set_option linter.unusedVariables false

/-- The strokes struck. -/
def strip (s : List UInt8) : List UInt8 := s.filter (· != 45)
theorem index_stroke (b : UInt8) (l : List UInt8) : Lib.index (b :: l) [45] = if b = 45 then 0 else if Lib.index l [45] = -1 then -1 else Lib.index l [45] + 1 := by
  rw [Lib.index]
  by_cases h : b = 45
  · subst h; simp [List.isPrefixOf]
  · have h' : ¬ (45 = b) := fun e => h e.symm
    simp [List.isPrefixOf, h, h']
theorem repl_cons (b : UInt8) (l : List UInt8) (h : b ≠ 45) : ∀ k, Lib.replaceK [45] [] k (b :: l) = b :: Lib.replaceK [45] [] k l
  | 0 => rfl
  | k + 1 => by
    have hg := Lib.index_ge l [45]
    have hi := index_stroke b l
    rw [if_neg h] at hi
    by_cases hm : Lib.index l [45] = -1
    · rw [if_pos hm] at hi
      rw [Lib.replaceK, Lib.replaceK, if_pos (beq_iff_eq.2 hi), if_pos (beq_iff_eq.2 hm)]
    · rw [if_neg hm] at hi
      obtain ⟨j, hj⟩ : ∃ j : Nat, Lib.index l [45] = j := ⟨(Lib.index l [45]).toNat, by omega⟩
      rw [Lib.replaceK_hit _ _ _ _ j hj, Lib.replaceK_hit _ _ _ _ (j + 1) (by rw [hi, hj]; rfl)]
      simp [List.take_succ_cons]
theorem count_stroke (l : List UInt8) : Lib.count (45 :: l) [45] = 1 + Lib.count l [45] := by
  rw [Lib.count_hit (i := 0) (by simp) (by rw [index_stroke, if_pos rfl]; rfl)]
  simp
theorem count_other (b : UInt8) (l : List UInt8) (h : b ≠ 45) : Lib.count (b :: l) [45] = Lib.count l [45] := by
  have hg := Lib.index_ge l [45]
  have hi := index_stroke b l
  rw [if_neg h] at hi
  by_cases hm : Lib.index l [45] = -1
  · rw [if_pos hm] at hi
    rw [Lib.count_miss hi, Lib.count_miss hm]
  · rw [if_neg hm] at hi
    obtain ⟨j, hj⟩ : ∃ j : Nat, Lib.index l [45] = j := ⟨(Lib.index l [45]).toNat, by omega⟩
    rw [Lib.count_hit (by simp) hj, Lib.count_hit (i := j + 1) (by simp) (by rw [hi, hj]; rfl)]
    simp
theorem repl_strip : ∀ (s : List UInt8) (k : Nat), Lib.count s [45] ≤ k → Lib.replaceK [45] [] k s = strip s
  | [], k, _ => by
    cases k with
    | zero => rfl
    | succ k => rw [Lib.replaceK, if_pos (by rfl)]; rfl
  | b :: l, k, h => by
    by_cases hb : b = 45
    · subst hb
      rw [count_stroke] at h
      obtain ⟨k', rfl⟩ : ∃ k', k = k' + 1 := ⟨k - 1, by omega⟩
      rw [Lib.replaceK_hit _ _ _ _ 0 (by rw [index_stroke, if_pos rfl]; rfl)]
      simp only [List.take_zero, List.nil_append, List.length_cons, List.length_nil, Nat.zero_add, List.drop_succ_cons, List.drop_zero]
      rw [repl_strip l k' (by omega)]
      unfold strip
      rw [List.filter_cons_of_neg (by decide)]
    · rw [count_other b l hb] at h
      rw [repl_cons b l hb, repl_strip l k h]
      unfold strip
      rw [List.filter_cons_of_pos (by simpa using hb)]
theorem replaceAll_strip (s : List UInt8) : Lib.replaceAll s [45] [] = strip s := by
  unfold Lib.replaceAll Lib.replace
  rw [if_neg (by decide)]
  exact repl_strip s _ (by unfold Lib.replaceNum; rw [if_pos (.inl (by decide))]; exact Nat.le_refl _)

/-- An id's letters, with the strokes. -/
def mkId (A B C D E : List UInt8) : List UInt8 := A ++ 45 :: (B ++ 45 :: (C ++ 45 :: (D ++ 45 :: E)))
theorem hexL_take (n : Nat) : ∀ l : List UInt8, hexL (l.take n) = (hexL l).take (2 * n) := by
  induction n with
  | zero => intro l; rfl
  | succ n ih =>
    intro l
    cases l with
    | nil => simp [hexL_nil]
    | cons b l => rw [List.take_succ_cons, hexL_cons, hexL_cons, ih, show 2 * (n + 1) = 2 * n + 1 + 1 by omega, List.take_succ_cons, List.take_succ_cons]
theorem hexL_drop (n : Nat) : ∀ l : List UInt8, hexL (l.drop n) = (hexL l).drop (2 * n) := by
  induction n with
  | zero => intro l; rfl
  | succ n ih =>
    intro l
    cases l with
    | nil => simp [hexL_nil]
    | cons b l => rw [List.drop_succ_cons, hexL_cons, ih, show 2 * (n + 1) = 2 * n + 1 + 1 by omega, List.drop_succ_cons, List.drop_succ_cons]
theorem idL_mk (l : List UInt8) : idL l = mkId ((hexL l).take 8) (((hexL l).drop 8).take 4) (((hexL l).drop 12).take 4) (((hexL l).drop 16).take 4) ((hexL l).drop 20) := by
  unfold idL mkId
  rw [hexL_take, hexL_take, hexL_take, hexL_take, hexL_drop, hexL_drop, hexL_drop, hexL_drop]
/-- A text of 36 bytes with its strokes, in parts. -/
theorem mk_parts (s : List UInt8) (h : s.length = 36) (h8 : s[8]? = some 45) (h13 : s[13]? = some 45) (h18 : s[18]? = some 45) (h23 : s[23]? = some 45) :
    s = mkId (s.take 8) ((s.drop 9).take 4) ((s.drop 14).take 4) ((s.drop 19).take 4) (s.drop 24) := by
  have st (n : Nat) (hn : s[n]? = some 45) : s.drop n = 45 :: s.drop (n + 1) := by
    have hl : n < s.length := (List.getElem?_eq_some_iff.1 hn).1
    rw [List.drop_eq_getElem_cons hl]
    congr 1
    rw [List.getElem?_eq_getElem hl] at hn
    exact Option.some.inj hn
  have sp (n m : Nat) : s.drop n = (s.drop n).take m ++ s.drop (n + m) := by rw [← List.drop_drop]; exact (List.take_append_drop m _).symm
  unfold mkId
  conv => lhs; rw [← List.take_append_drop 8 s, st 8 h8, sp 9 4, st 13 h13, sp 14 4, st 18 h18, sp 19 4, st 23 h23]
theorem hx_stroke : ∀ d, d < 16 → (hx d != 45) = true := by decide +kernel
theorem strip_hex : ∀ l : List UInt8, strip (hexL l) = hexL l
  | [] => rfl
  | b :: l => by
    have hb := UInt8.toNat_lt b
    have ih := strip_hex l
    unfold strip at ih ⊢
    rw [hexL_cons, List.filter_cons_of_pos (p := fun x => x != 45) (hx_stroke _ (by omega)), List.filter_cons_of_pos (p := fun x => x != 45) (hx_stroke _ (by omega)), ih]
theorem strip_append (a b : List UInt8) : strip (a ++ b) = strip a ++ strip b := by unfold strip; exact List.filter_append ..
theorem strip_cons (a : List UInt8) : strip (45 :: a) = strip a := by unfold strip; rw [List.filter_cons_of_neg (by decide)]
theorem strip_id (l : List UInt8) : strip (idL l) = hexL l := by
  unfold idL
  rw [strip_append, strip_cons, strip_append, strip_cons, strip_append, strip_cons, strip_append, strip_cons, strip_hex, strip_hex, strip_hex, strip_hex, strip_hex]
  rw [← hexL_append, ← hexL_append, ← hexL_append, ← hexL_append]
  rw [parts_id]

/-- What a text is the text of. -/
def IsId (s l : List UInt8) : Prop := l.length = 16 ∧ idL l = s
theorem IsId.uniq {s l m : List UInt8} (h : IsId s l) (h' : IsId s m) : l = m := idL_inj h.1 h'.1 (h.2.trans h'.2.symm)

/-- The letters without strokes, as the document cuts them. -/
def cutId (s : List UInt8) : List UInt8 := s.take 8 ++ (s.drop 9).take 4 ++ (s.drop 14).take 4 ++ (s.drop 19).take 4 ++ s.drop 24
theorem cut_mk (A B C D E : List UInt8) (hA : A.length = 8) (hB : B.length = 4) (hC : C.length = 4) (hD : D.length = 4) : cutId (mkId A B C D E) = A ++ B ++ C ++ D ++ E := by
  have e (X Y : List UInt8) (n : Nat) (h : X.length = n) : (X ++ Y).take n = X := by rw [← h]; exact List.take_left ..
  have f (X Y : List UInt8) (n m : Nat) (h : X.length = n) : (X ++ 45 :: Y).drop (n + 1 + m) = Y.drop m := by
    rw [show n + 1 + m = X.length + (1 + m) by omega, List.drop_append, Nat.add_comm 1 m]
    simp
  unfold cutId
  have d1 : (mkId A B C D E).drop 9 = B ++ 45 :: (C ++ 45 :: (D ++ 45 :: E)) := f _ _ 8 0 hA
  have d2 : (mkId A B C D E).drop 14 = C ++ 45 :: (D ++ 45 :: E) := (f _ _ 8 5 hA).trans (f _ _ 4 0 hB)
  have d3 : (mkId A B C D E).drop 19 = D ++ 45 :: E := ((f _ _ 8 10 hA).trans (f _ _ 4 5 hB)).trans (f _ _ 4 0 hC)
  have d4 : (mkId A B C D E).drop 24 = E := (((f _ _ 8 15 hA).trans (f _ _ 4 10 hB)).trans (f _ _ 4 5 hC)).trans (f _ _ 4 0 hD)
  rw [d1, d2, d3, d4, e _ _ _ hB, e _ _ _ hC, e _ _ _ hD]
  unfold mkId
  rw [e _ _ _ hA]
theorem cut_id (l : List UInt8) (h : l.length = 16) : cutId (idL l) = hexL l := by
  have hl : (hexL l).length = 32 := by rw [hexL_length, h]
  rw [idL_mk, cut_mk _ _ _ _ _ (by rw [List.length_take, hl]; rfl) (by rw [List.length_take, List.length_drop, hl]; rfl) (by rw [List.length_take, List.length_drop, hl]; rfl) (by rw [List.length_take, List.length_drop, hl]; rfl)]
  have sp (n m : Nat) : ((hexL l).drop n).take m ++ (hexL l).drop (n + m) = (hexL l).drop n := by rw [← List.drop_drop]; exact List.take_append_drop m _
  rw [List.append_assoc, List.append_assoc, List.append_assoc, sp 16 4, sp 12 4, sp 8 4, List.take_append_drop]
/-- A text of 36 bytes with strokes whose letters are an id's is its text. -/
theorem isId_of_cut (s l : List UInt8) (h : s.length = 36) (h8 : s[8]? = some 45) (h13 : s[13]? = some 45) (h18 : s[18]? = some 45) (h23 : s[23]? = some 45) (hc : cutId s = hexL l) : IsId s l := by
  have hp := mk_parts s h h8 h13 h18 h23
  have hlen : (cutId s).length = 32 := by unfold cutId; simp [h]
  have hl : l.length = 16 := by rw [hc, hexL_length] at hlen; omega
  refine ⟨hl, ?_⟩
  have hcut : hexL l = s.take 8 ++ (s.drop 9).take 4 ++ (s.drop 14).take 4 ++ (s.drop 19).take 4 ++ s.drop 24 := hc.symm
  have l0 : (s.take 8).length = 8 := by simp [h]
  have l1 : ((s.drop 9).take 4).length = 4 := by simp [h]
  have l2 : ((s.drop 14).take 4).length = 4 := by simp [h]
  have l3 : ((s.drop 19).take 4).length = 4 := by simp [h]
  rw [idL_mk, hcut]
  conv => rhs; rw [hp]
  generalize s.take 8 = A at *
  generalize (s.drop 9).take 4 = B at *
  generalize (s.drop 14).take 4 = C at *
  generalize (s.drop 19).take 4 = D at *
  generalize s.drop 24 = E at *
  have e (X Y : List UInt8) (n : Nat) (h : X.length = n) : (X ++ Y).take n = X := by rw [← h]; exact List.take_left ..
  have f (X Y : List UInt8) (n m : Nat) (h : X.length = n) : (X ++ Y).drop (n + m) = Y.drop m := by
    rw [← h, List.drop_append]
    simp
  simp only [List.append_assoc]
  rw [e _ _ _ l0, f _ _ 8 0 l0, f _ _ 8 4 l0, f _ _ 8 8 l0, f _ _ 8 12 l0, f _ _ 4 0 l1, f _ _ 4 4 l1, f _ _ 4 8 l1, f _ _ 4 0 l2, f _ _ 4 4 l2, f _ _ 4 0 l3]
  simp only [List.drop_zero]
  rw [e _ _ _ l1, e _ _ _ l2, e _ _ _ l3]
theorem id_strokes (l : List UInt8) (h : l.length = 16) : (idL l)[8]? = some 45 ∧ (idL l)[13]? = some 45 ∧ (idL l)[18]? = some 45 ∧ (idL l)[23]? = some 45 := by
  have a0 : (hexL (l.take 4)).length = 8 := by rw [hexL_length, List.length_take, h]; rfl
  have a1 : (hexL ((l.drop 4).take 2)).length = 4 := by rw [hexL_length, List.length_take, List.length_drop, h]; rfl
  have a2 : (hexL ((l.drop 6).take 2)).length = 4 := by rw [hexL_length, List.length_take, List.length_drop, h]; rfl
  have a3 : (hexL ((l.drop 8).take 2)).length = 4 := by rw [hexL_length, List.length_take, List.length_drop, h]; rfl
  unfold idL
  have g0 (X Y : List UInt8) (n : Nat) (hX : X.length = n) : (X ++ 45 :: Y)[n]? = some 45 := by
    rw [List.getElem?_append_right (by omega), hX, Nat.sub_self]; rfl
  have g1 (X Y : List UInt8) (n m : Nat) (hX : X.length = n) : (X ++ 45 :: Y)[n + 1 + m]? = Y[m]? := by
    rw [List.getElem?_append_right (by omega), hX, show n + 1 + m - n = m + 1 by omega]; rfl
  exact ⟨g0 _ _ 8 a0, (g1 _ _ 8 4 a0).trans (g0 _ _ 4 a1), ((g1 _ _ 8 9 a0).trans (g1 _ _ 4 4 a1)).trans (g0 _ _ 4 a2), (((g1 _ _ 8 14 a0).trans (g1 _ _ 4 9 a1)).trans (g1 _ _ 4 4 a2)).trans (g0 _ _ 4 a3)⟩
/-- The bytes of letters. -/
theorem dec_hex (l : List UInt8) : decS hexS 4 ⟨(hexL l).toArray⟩ = ⟨l.toArray⟩ := by
  have h := dec_enc hexS 4 false ⟨l.toArray⟩ (.inl rfl) rfl hex_ix (by decide +kernel)
  rw [encS_hex] at h
  exact h
end Go.Proofs.YtdhplohppcndhaaGreatDoor

namespace Go.Proofs.YtdhplohppcndhaaGreatDoor
open Go.RowKit
set_option linter.unusedVariables false

theorem results_row_tmp {P : Program} {fn : Func} {p u : Tmp} {ty : TypeId} (h : fn.results = #[.cell p ty, .tmp u]) (tmps : Array Value) (w : World) (g : Nat) (t : TypeId) (cs : Array Value) (fr : Nat × Nat) (d : TypeDesc)
    (hp : tmps.getD p undef = .pointer (some ⟨g, 0, none⟩)) (hg : w.heap[g]? = some (.cells cs t fr))
    (hu : P.underlying ty = some d) (hd : (match d with | .struct _ | .array _ _ => true | _ => false) = true) (hi : (P.info? ty).map (·.size) = some cs.size) (x : Value) (hx : tmps.getD u undef = x) :
    (results fn tmps).run P w = .ok (.tuple #[.agg cs, x]) w := by
  rw [results_cell_tmp h, hp, hx]
  simp [asAddr, run_loadVar_row w g t ty cs fr d hg hu hd hi, Result.andThen]
def z16 : List Value := List.replicate 16 (.int .u8 0)
theorem u16_info : (Tryz.prog.info? 23).map (fun i => (i.zero, i.size)) = some (some (.agg z16.toArray), 16) := by kernel_rfl
theorem u16_size : (Tryz.prog.info? 23).map (·.size) = some 16 := (zero_of_info u16_info).2
theorem one_bytes (l : List UInt8) : (l.map bv).toArray.all (·.oneCell') = true := by
  rw [Array.all_eq_true_iff_forall_mem]
  intro v hv
  simp only [List.mem_toArray, List.mem_map] at hv
  obtain ⟨c, _, rfl⟩ := hv
  rfl

theorem z16_eq : z16 = (List.replicate 16 (0 : UInt8)).map bv := by rfl
theorem z16_one : z16.toArray.all (·.oneCell') = true := by rw [z16_eq]; exact one_bytes _

set_option maxRecDepth 20000 in
set_option maxHeartbeats 1000000 in
theorem id_ok (r : ByteArray) (hr : r.size = 16) (w : World) :
    Calls Tryz.prog 24 #[.string r] w fun e w' => e = .returned (.tuple #[.agg (r.data.toList.map bv).toArray, .int .i64 0]) ∧ Below w.heap.size w w' := by
  have hz := (zero_of_info u16_info).1
  have hl : r.data.toList.length = 16 := by rw [← hr]; simp
  have hone := one_bytes r.data.toList
  obtain ⟨cap, w7, hcv, hcell, hfr, hB, hsz⟩ := str_bytes (P := Tryz.prog) (w.alloc (.cells z16.toArray 23)) 9 44 5 r Tryz.underlying9 Tryz.underlying44 Tryz.underlying5
  have hrg : w7.rangeAt (w.heap.size + 1) 0 (r.data.toList.map bv) := fun j v hj => by
    have hj' : j < r.data.toList.length := by
      have := (List.getElem?_eq_some_iff.1 hj).1
      simpa using this
    have h := hcell j (by omega)
    rw [World.size_alloc] at h
    rw [Nat.zero_add, h]
    rw [List.getElem?_map, List.getElem?_eq_getElem hj'] at hj
    rw [List.getD_eq_getElem?_getD, List.getElem?_eq_getElem hj']
    exact hj
  have hr7 : Row w7 w.heap.size 23 z16 := (Row.new w 23 z16).below hB (by simp)
  have hb7 : Below w.heap.size w w7 := ((Below.refl w.heap.size w).alloc (Nat.le_refl _) (.cells z16.toArray 23)).trans (hB.mono (by simp))
  rw [World.size_alloc] at hcv
  have har := fun W => run_arrayAt (P := Tryz.prog) (w := W) 23 5 16 (some ⟨w.heap.size + 1, 0, none⟩) r.size cap Tryz.underlying23 (by omega)
  obtain ⟨C, hC⟩ : ∃ C, r.data.toList.map bv = C := ⟨_, rfl⟩
  have hCl : C.length = 16 := by rw [← hC, List.length_map, hl]
  rw [hC] at hrg hone ⊢
  have H := Lib.hid (And.intro hrg (And.intro hr7 (And.intro hb7 (And.intro hone hCl))))
  have hrI : ((r.size : Int) != 16) = false := by rw [hr]; rfl
  clear hl hone hcell hfr hB hsz hrg hr7 hb7 hC hCl hr
  go_enter Tryz.func24, Tryz.ntmps24
  go_wp2_with (first
    | (refine wpList_load_mid rfl 23 (.tmp 10) rfl (w.heap.size + 1) 0 rfl C _ H.out.1 Tryz.underlying23 rfl (by rw [u16_size, H.out.2.2.2.2]) ?_)
    | (refine wpList_store_row rfl 23 (.tmp 2) (.tmp 11) rfl w.heap.size C.toArray rfl rfl 23 z16.toArray H.out.2.1 (by rw [u16_size, List.size_toArray, H.out.2.2.2.2]) (by rw [List.size_toArray, List.size_toArray, H.out.2.2.2.2]; rfl) H.out.2.2.2.1 ?_))
  have hp := H.out.2.1.put C
  have hq := below_setRow (B := w.heap.size) H.out.2.2.1 (Nat.le_refl _) C.toArray
  exact bodyPost_ret (v := .tuple #[.agg C.toArray, .int .i64 0]) (results_row_tmp rfl _ _ w.heap.size 23 C.toArray (0, 0) _ rfl hp Tryz.underlying23 rfl (by rw [u16_size, List.size_toArray, H.out.2.2.2.2]) _ rfl) rfl ⟨rfl, hq⟩

set_option maxRecDepth 20000 in
set_option maxHeartbeats 1000000 in
theorem id_bad (r : ByteArray) (hr : r.size ≠ 16) (w : World) :
    Calls Tryz.prog 24 #[.string r] w fun e w' => e = .returned (.tuple #[.agg z16.toArray, .int .i64 4]) ∧ Below w.heap.size w w' := by
  have hz := (zero_of_info u16_info).1
  have hr7 := Row.new w 23 z16
  have hb7 : Below w.heap.size w (w.alloc (.cells z16.toArray 23)) := (Below.refl w.heap.size w).alloc (Nat.le_refl _) (.cells z16.toArray 23)
  have H := Lib.hid (And.intro hr7 hb7)
  have hrI : ((r.size : Int) != 16) = true := by rw [bne_iff_ne]; omega
  clear hr hr7 hb7
  go_enter Tryz.func24, Tryz.ntmps24
  go_wp2_with (refine wpList_store_row rfl 23 (.tmp 2) (.tmp 7) rfl w.heap.size z16.toArray rfl rfl 23 z16.toArray H.out.1 u16_size rfl z16_one ?_)
  have hp := H.out.1.put z16
  have hq := below_setRow (B := w.heap.size) H.out.2 (Nat.le_refl _) z16.toArray
  exact bodyPost_ret (v := .tuple #[.agg z16.toArray, .int .i64 4]) (results_row_tmp rfl _ _ w.heap.size 23 z16.toArray (0, 0) _ rfl hp Tryz.underlying23 rfl u16_size _ rfl) rfl ⟨rfl, hq⟩

set_option maxRecDepth 20000 in
set_option maxHeartbeats 1000000 in
/-- Whether all bytes are nought. -/
theorem idZero_any (l : List UInt8) (hl : l.length = 16) (w : World) :
    Calls Tryz.prog 10 #[.agg (l.map bv).toArray] w fun e w' => e = .returned (.bool (decide (l = List.replicate 16 0))) ∧ Below w.heap.size w w' := by
  have hr0 := Row.new w 23 (l.map bv)
  have hb0 : Below w.heap.size w (w.alloc (.cells (l.map bv).toArray 23)) := (Below.refl w.heap.size w).alloc (Nat.le_refl _) (.cells (l.map bv).toArray 23)
  have he := fun W => arr_equalIn (P := Tryz.prog) 23 5 16 l (List.replicate 16 0) hl rfl Tryz.underlying23 Tryz.underlying5 (Tryz.isAgg5) _ (info_parts (show (Tryz.prog.info? 5).map (fun i => (i.zero, i.size, i.bytes)) = some (some (.int .u8 0), 1, 1) by kernel_rfl)).choose_spec.1 (by kernel_rfl) W
  rw [← z16_eq] at he
  have ez : z16.toArray = zA := by rfl
  rw [ez] at he
  unfold zA at he
  obtain ⟨C, hC⟩ : ∃ C, l.map bv = C := ⟨_, rfl⟩
  have hCl : C.length = 16 := by rw [← hC, List.length_map, hl]
  obtain ⟨r, hr⟩ : ∃ r, decide (l = List.replicate 16 0) = r := ⟨_, rfl⟩
  rw [hC] at hr0 hb0 he ⊢
  rw [hr] at he ⊢
  have H := Lib.hid (And.intro hr0 (And.intro hb0 hCl))
  clear hC hr hr0 hb0 hl hCl ez
  go_enter Tryz.func10, Tryz.ntmps10
  go_wp2_with (first
    | (refine wpList_load_row rfl 23 (.tmp 1) rfl w.heap.size rfl 23 C.toArray (0, 0) _ H.out.1 Tryz.underlying23 rfl (by rw [u16_size, List.size_toArray, H.out.2.2]) ?_)
    | fail)
  go_ret
  exact ⟨rfl, H.out.2.1⟩
end Go.Proofs.YtdhplohppcndhaaGreatDoor

namespace Go.Proofs.YtdhplohppcndhaaGreatDoor
open Go.RowKit
set_option linter.unusedVariables false

/-- An operation whose guard is met. -/
theorem wpList_want {P : Program} {ops : Array Oper} {rest : List Oper} {o : Oper} {a : Act} {w : World} {Q : Exit → Act → World → Prop} (hw : Region.wanted o (yielded ops a.tmps) = true)
    (h : ∀ K : Act → World → Prop, (∀ a w, wpList P ops Q rest a w → K a w) → o.wp P a w K Q) : wpList P ops Q (o :: rest) a w := by
  simp only [wpList, hw, if_true]
  exact .inl (h _ (fun _ _ h => h))
/-- The library's variable holds some number. -/
def M (w : World) : Prop := ∃ m, w.cell? ⟨0, 0, none⟩ = some (.int .i64 m)
theorem M.below {w w' : World} (h : M w) (hb : Below w.heap.size w w') : M w' := by
  obtain ⟨m, hm⟩ := h
  exact ⟨m, (hb.cell (p := ⟨0, 0, none⟩) (block_lt_of_cell hm)).trans hm⟩

theorem strip_any (s : ByteArray) (hs : s.size ≤ 100000) (w : World) (hM : M w) :
    Calls Tryz.prog 23 #[.string s, .string ⟨#[45]⟩, .string ⟨#[]⟩] w fun e w' => e = .returned (.string ⟨(strip s.data.toList).toArray⟩) ∧ Below w.heap.size w w' := by
  obtain ⟨m, hm⟩ := hM
  have h := Tryz.strings_ReplaceAll s ⟨#[45]⟩ ⟨#[]⟩ m w (by omega) hm (by decide) (by show s.size + _ * 0 ≤ _; omega)
  rw [show (ByteArray.mk #[45]).data.toList = [45] from rfl, show (ByteArray.mk #[]).data.toList = [] from rfl, replaceAll_strip] at h
  exact h

set_option maxRecDepth 20000 in
set_option maxHeartbeats 2000000 in
/-- Where the bytes are no id's. -/
theorem parse_short (s t raw : ByteArray) (e : Int) (ht : (⟨(strip s.data.toList).toArray⟩ : ByteArray) = t) (hs : s.size ≤ 100000) (w : World) (hM : M w)
    (hD : ∀ W : World, Calls Tryz.prog 22 #[alph hexS 4 false, .string t] W fun x w' => x = .returned (.tuple #[.string raw, .int .i64 e]) ∧ Below W.heap.size W w') (hr : raw.size ≠ 16) :
    Calls Tryz.prog 7 #[.string s] w fun e w' => e = .returned (.tuple #[.agg z16.toArray, .int .i64 4]) ∧ Below w.heap.size w w' := by
  have hz := (zero_of_info u16_info).1
  have HS : Hid (∀ W : World, M W → Calls Tryz.prog 23 #[.string s, .string ⟨#[45]⟩, .string ⟨#[]⟩] W fun e w' => e = .returned (.string t) ∧ Below W.heap.size W w') := Lib.hid fun W h => by rw [← ht]; exact strip_any s hs W h
  have HD := Lib.hid hD
  have HI := Lib.hid (fun W => id_bad raw hr W)
  have HM := Lib.hid hM
  have hr0 := Row.new w 23 z16
  have hb0 : Below w.heap.size w (w.alloc (.cells z16.toArray 23)) := (Below.refl w.heap.size w).alloc (Nat.le_refl _) (.cells z16.toArray 23)
  have H0 := Lib.hid (And.intro hr0 hb0)
  clear hD ht hr hs hM hr0 hb0
  go_enter Tryz.func7, Tryz.ntmps7
  go_wp2_with fail
  obtain ⟨r0, b0⟩ := H0.out
  generalize w.alloc (.cells z16.toArray 23) = w0 at r0 b0 ⊢
  refine (Hex_any _).mono ?_
  rintro x w1 ⟨rfl, hb1⟩
  have r1 := r0.below hb1 r0.lt
  have b1 := b0.trans (hb1.mono b0.size)
  clear r0 b0 hb1 H0
  go_wp2_with fail
  refine (HS.out _ (HM.out.below b1)).mono ?_
  rintro x w2 ⟨rfl, hb2⟩
  have r2 := r1.below hb2 r1.lt
  have b2 := b1.trans (hb2.mono b1.size)
  clear r1 b1 hb2
  go_wp2_with fail
  refine (HD.out _).mono ?_
  rintro x w3 ⟨rfl, hb3⟩
  have r3 := r2.below hb3 r2.lt
  have b3 := b2.trans (hb3.mono b2.size)
  clear r2 b2 hb3
  go_wp2_with fail
  refine (HI.out _).mono ?_
  rintro x w4 ⟨rfl, hb4⟩
  have r4 := r3.below hb4 r3.lt
  have b4 := b3.trans (hb4.mono b3.size)
  clear r3 b3 hb4
  have r5 := r4.alloc (.cells z16.toArray 23)
  have b5 := b4.alloc b4.size (.cells z16.toArray 23)
  have n5 := Row.new w4 23 z16
  have r6 := r5.put_far (g' := w4.heap.size) (by have := r4.lt; omega) z16.toArray
  have b6 := below_setRow (B := w.heap.size) b5 b4.size z16.toArray
  have H := Lib.hid (And.intro n5 (And.intro r6 b6))
  clear r4 b4 r5 b5 n5 r6 b6
  go_wp2_with (first
    | (refine wpList_store_row rfl 23 (.tmp 6) (.tmp 18) rfl w4.heap.size z16.toArray rfl rfl 23 z16.toArray H.out.1 u16_size rfl z16_one ?_)
    | (refine wpList_store_row rfl 23 (.tmp 2) (.tmp 28) rfl w.heap.size z16.toArray rfl rfl 23 z16.toArray H.out.2.1 u16_size rfl z16_one ?_))
  have hp := H.out.2.1.put z16
  have hq := below_setRow (B := w.heap.size) H.out.2.2 (Nat.le_refl _) z16.toArray
  exact bodyPost_ret (v := .tuple #[.agg z16.toArray, .int .i64 4]) (results_row_tmp rfl _ _ w.heap.size 23 z16.toArray (0, 0) _ rfl hp Tryz.underlying23 rfl u16_size _ rfl) rfl ⟨rfl, hq⟩

set_option maxRecDepth 20000 in
set_option maxHeartbeats 2000000 in
/-- Where they are, and the text is theirs. -/
theorem parse_long (s t raw : ByteArray) (e : Int) (ht : (⟨(strip s.data.toList).toArray⟩ : ByteArray) = t) (hs : s.size ≤ 100000) (w : World) (hM : M w)
    (hD : ∀ W : World, Calls Tryz.prog 22 #[alph hexS 4 false, .string t] W fun x w' => x = .returned (.tuple #[.string raw, .int .i64 e]) ∧ Below W.heap.size W w') (hr : raw.size = 16) (htx : idL raw.data.toList = s.data.toList) :
    Calls Tryz.prog 7 #[.string s] w fun e w' => e = .returned (.tuple #[.agg (raw.data.toList.map bv).toArray, .int .i64 0]) ∧ Below w.heap.size w w' := by
  have hz := (zero_of_info u16_info).1
  have HS : Hid (∀ W : World, M W → Calls Tryz.prog 23 #[.string s, .string ⟨#[45]⟩, .string ⟨#[]⟩] W fun e w' => e = .returned (.string t) ∧ Below W.heap.size W w') := Lib.hid fun W h => by rw [← ht]; exact strip_any s hs W h
  have HD := Lib.hid hD
  have hl : raw.data.toList.length = 16 := by rw [← hr]; simp
  have hI := fun W => id_ok raw hr W
  have hT := fun W => idText_any raw.data.toList hl W
  have hone := one_bytes raw.data.toList
  obtain ⟨C, hC⟩ : ∃ C, raw.data.toList.map bv = C := ⟨_, rfl⟩
  have hCl : C.length = 16 := by rw [← hC, List.length_map, hl]
  rw [hC] at hI hT hone ⊢
  have htt : (⟨(idL raw.data.toList).toArray⟩ : ByteArray) = s := by rw [htx]
  rw [htt] at hT
  have HI := Lib.hid hI
  have HT := Lib.hid hT
  have HC := Lib.hid (And.intro hCl hone)
  have HM := Lib.hid hM
  have hr0 := Row.new w 23 z16
  have hb0 : Below w.heap.size w (w.alloc (.cells z16.toArray 23)) := (Below.refl w.heap.size w).alloc (Nat.le_refl _) (.cells z16.toArray 23)
  have H0 := Lib.hid (And.intro hr0 hb0)
  clear hD ht hr hs hM hr0 hb0 hl hI hT hone hC hCl htt htx
  go_enter Tryz.func7, Tryz.ntmps7
  go_wp2_with fail
  obtain ⟨r0, b0⟩ := H0.out
  generalize w.alloc (.cells z16.toArray 23) = w0 at r0 b0 ⊢
  refine (Hex_any _).mono ?_
  rintro x w1 ⟨rfl, hb1⟩
  have r1 := r0.below hb1 r0.lt
  have b1 := b0.trans (hb1.mono b0.size)
  clear r0 b0 hb1 H0
  go_wp2_with fail
  refine (HS.out _ (HM.out.below b1)).mono ?_
  rintro x w2 ⟨rfl, hb2⟩
  have r2 := r1.below hb2 r1.lt
  have b2 := b1.trans (hb2.mono b1.size)
  clear r1 b1 hb2
  go_wp2_with fail
  refine (HD.out _).mono ?_
  rintro x w3 ⟨rfl, hb3⟩
  have r3 := r2.below hb3 r2.lt
  have b3 := b2.trans (hb3.mono b2.size)
  clear r2 b2 hb3
  go_wp2_with fail
  refine (HI.out _).mono ?_
  rintro x w4 ⟨rfl, hb4⟩
  have r4 := r3.below hb4 r3.lt
  have b4 := b3.trans (hb4.mono b3.size)
  clear r3 b3 hb4
  have r5 := r4.alloc (.cells z16.toArray 23)
  have b5 := b4.alloc b4.size (.cells z16.toArray 23)
  have n5 := Row.new w4 23 z16
  have N5 := Lib.hid n5
  have n6 := n5.put C
  have r6 := r5.put_far (g' := w4.heap.size) (by have := r4.lt; omega) C.toArray
  have b6 := below_setRow (B := w.heap.size) b5 b4.size C.toArray
  clear r4 b4 r5 b5 n5
  go_wp2_with (first
    | (refine wpList_store_row rfl 23 (.tmp 6) (.tmp 18) rfl w4.heap.size C.toArray rfl rfl 23 z16.toArray N5.out (by rw [u16_size, List.size_toArray, HC.out.1]) (by rw [List.size_toArray, List.size_toArray, HC.out.1]; rfl) HC.out.2 ?_)
    | (refine wpList_want (by rfl) fun _ hK => wp_load_row 23 (.tmp 6) rfl w4.heap.size rfl 23 C.toArray (0, 0) _ n6 Tryz.underlying23 rfl (by rw [u16_size, List.size_toArray, HC.out.1]) (hK _ _ ?_)))
  generalize (w4.alloc (.cells z16.toArray 23)).setRow w4.heap.size C.toArray = w5 at n6 r6 b6 ⊢
  obtain ⟨g6, hg6⟩ : ∃ g, w4.heap.size = g := ⟨_, rfl⟩
  rw [hg6] at n6 ⊢
  clear N5 hg6
  refine (HT.out _).mono ?_
  rintro x w6 ⟨rfl, hb6⟩
  have n7 := n6.below hb6 n6.lt
  have r7 := r6.below hb6 r6.lt
  have b7 := b6.trans (hb6.mono b6.size)
  clear n6 r6 b6 hb6
  go_wp2_with (first
    | (refine wpList_load_row rfl 23 (.tmp 6) rfl g6 rfl 23 C.toArray (0, 0) _ n7 Tryz.underlying23 rfl (by rw [u16_size, List.size_toArray, HC.out.1]) ?_)
    | (refine wpList_store_row rfl 23 (.tmp 2) (.tmp 29) rfl w.heap.size C.toArray rfl rfl 23 z16.toArray r7 (by rw [u16_size, List.size_toArray, HC.out.1]) (by rw [List.size_toArray, List.size_toArray, HC.out.1]; rfl) HC.out.2 ?_))
  have hp := r7.put C
  have hq := below_setRow (B := w.heap.size) b7 (Nat.le_refl _) C.toArray
  exact bodyPost_ret (v := .tuple #[.agg C.toArray, .int .i64 0]) (results_row_tmp rfl _ _ w.heap.size 23 C.toArray (0, 0) _ rfl hp Tryz.underlying23 rfl (by rw [u16_size, List.size_toArray, HC.out.1]) _ rfl) rfl ⟨rfl, hq⟩

set_option maxRecDepth 20000 in
set_option maxHeartbeats 2000000 in
/-- Where they are, and the text isn't theirs. -/
theorem parse_other (s t raw : ByteArray) (e : Int) (ht : (⟨(strip s.data.toList).toArray⟩ : ByteArray) = t) (hs : s.size ≤ 100000) (w : World) (hM : M w)
    (hD : ∀ W : World, Calls Tryz.prog 22 #[alph hexS 4 false, .string t] W fun x w' => x = .returned (.tuple #[.string raw, .int .i64 e]) ∧ Below W.heap.size W w') (hr : raw.size = 16) (htx : idL raw.data.toList ≠ s.data.toList) :
    Calls Tryz.prog 7 #[.string s] w fun e w' => e = .returned (.tuple #[.agg z16.toArray, .int .i64 4]) ∧ Below w.heap.size w w' := by
  have hz := (zero_of_info u16_info).1
  have HS : Hid (∀ W : World, M W → Calls Tryz.prog 23 #[.string s, .string ⟨#[45]⟩, .string ⟨#[]⟩] W fun e w' => e = .returned (.string t) ∧ Below W.heap.size W w') := Lib.hid fun W h => by rw [← ht]; exact strip_any s hs W h
  have HD := Lib.hid hD
  have hl : raw.data.toList.length = 16 := by rw [← hr]; simp
  have hI := fun W => id_ok raw hr W
  have hT := fun W => idText_any raw.data.toList hl W
  have hone := one_bytes raw.data.toList
  obtain ⟨C, hC⟩ : ∃ C, raw.data.toList.map bv = C := ⟨_, rfl⟩
  have hCl : C.length = 16 := by rw [← hC, List.length_map, hl]
  rw [hC] at hI hT hone
  obtain ⟨tx, htt⟩ : ∃ tx : ByteArray, (⟨(idL raw.data.toList).toArray⟩ : ByteArray) = tx := ⟨_, rfl⟩
  rw [htt] at hT
  have hne : (tx.toList == s.toList) = false := by
    rw [beq_eq_false_iff_ne, Lib.toList_data, Lib.toList_data, ← htt]
    exact htx
  have HI := Lib.hid hI
  have HT := Lib.hid hT
  have HC := Lib.hid (And.intro hCl hone)
  have HM := Lib.hid hM
  have hr0 := Row.new w 23 z16
  have hb0 : Below w.heap.size w (w.alloc (.cells z16.toArray 23)) := (Below.refl w.heap.size w).alloc (Nat.le_refl _) (.cells z16.toArray 23)
  have H0 := Lib.hid (And.intro hr0 hb0)
  clear hD ht hr hs hM hr0 hb0 hl hI hT hone hC hCl htt htx
  go_enter Tryz.func7, Tryz.ntmps7
  go_wp2_with fail
  obtain ⟨r0, b0⟩ := H0.out
  generalize w.alloc (.cells z16.toArray 23) = w0 at r0 b0 ⊢
  refine (Hex_any _).mono ?_
  rintro x w1 ⟨rfl, hb1⟩
  have r1 := r0.below hb1 r0.lt
  have b1 := b0.trans (hb1.mono b0.size)
  clear r0 b0 hb1 H0
  go_wp2_with fail
  refine (HS.out _ (HM.out.below b1)).mono ?_
  rintro x w2 ⟨rfl, hb2⟩
  have r2 := r1.below hb2 r1.lt
  have b2 := b1.trans (hb2.mono b1.size)
  clear r1 b1 hb2
  go_wp2_with fail
  refine (HD.out _).mono ?_
  rintro x w3 ⟨rfl, hb3⟩
  have r3 := r2.below hb3 r2.lt
  have b3 := b2.trans (hb3.mono b2.size)
  clear r2 b2 hb3
  go_wp2_with fail
  refine (HI.out _).mono ?_
  rintro x w4 ⟨rfl, hb4⟩
  have r4 := r3.below hb4 r3.lt
  have b4 := b3.trans (hb4.mono b3.size)
  clear r3 b3 hb4
  have r5 := r4.alloc (.cells z16.toArray 23)
  have b5 := b4.alloc b4.size (.cells z16.toArray 23)
  have n5 := Row.new w4 23 z16
  have N5 := Lib.hid n5
  have n6 := n5.put C
  have r6 := r5.put_far (g' := w4.heap.size) (by have := r4.lt; omega) C.toArray
  have b6 := below_setRow (B := w.heap.size) b5 b4.size C.toArray
  clear r4 b4 r5 b5 n5
  go_wp2_with (first
    | (refine wpList_store_row rfl 23 (.tmp 6) (.tmp 18) rfl w4.heap.size C.toArray rfl rfl 23 z16.toArray N5.out (by rw [u16_size, List.size_toArray, HC.out.1]) (by rw [List.size_toArray, List.size_toArray, HC.out.1]; rfl) HC.out.2 ?_)
    | (refine wpList_want (by rfl) fun _ hK => wp_load_row 23 (.tmp 6) rfl w4.heap.size rfl 23 C.toArray (0, 0) _ n6 Tryz.underlying23 rfl (by rw [u16_size, List.size_toArray, HC.out.1]) (hK _ _ ?_)))
  generalize (w4.alloc (.cells z16.toArray 23)).setRow w4.heap.size C.toArray = w5 at n6 r6 b6 ⊢
  obtain ⟨g6, hg6⟩ : ∃ g, w4.heap.size = g := ⟨_, rfl⟩
  rw [hg6] at n6 ⊢
  clear N5 hg6
  refine (HT.out _).mono ?_
  rintro x w6 ⟨rfl, hb6⟩
  have n7 := n6.below hb6 n6.lt
  have r7 := r6.below hb6 r6.lt
  have b7 := b6.trans (hb6.mono b6.size)
  clear n6 r6 b6 hb6
  go_wp2_with (refine wpList_store_row rfl 23 (.tmp 2) (.tmp 28) rfl w.heap.size z16.toArray rfl rfl 23 z16.toArray r7 u16_size rfl z16_one ?_)
  have hp := r7.put z16
  have hq := below_setRow (B := w.heap.size) b7 (Nat.le_refl _) z16.toArray
  exact bodyPost_ret (v := .tuple #[.agg z16.toArray, .int .i64 4]) (results_row_tmp rfl _ _ w.heap.size 23 z16.toArray (0, 0) _ rfl hp Tryz.underlying23 rfl u16_size _ rfl) rfl ⟨rfl, hq⟩

/-- The id of its text. -/
theorem Parse_ok (s : ByteArray) (l : List UInt8) (h : IsId s.data.toList l) (hs : s.size ≤ 100000) (w : World) (hM : M w) :
    Calls Tryz.prog 7 #[.string s] w fun e w' => e = .returned (.tuple #[.agg (l.map bv).toArray, .int .i64 0]) ∧ Below w.heap.size w w' := by
  have hst : (⟨(strip s.data.toList).toArray⟩ : ByteArray) = ⟨(hexL l).toArray⟩ := by rw [← h.2, strip_id]
  have hl : (hexL l).length = 32 := by rw [hexL_length, h.1]
  have henc : encS hexS 4 false (decS hexS 4 ⟨(hexL l).toArray⟩) = ⟨(hexL l).toArray⟩ := by rw [dec_hex, encS_hex]
  refine parse_long s ⟨(hexL l).toArray⟩ ⟨l.toArray⟩ 0 hst hs w hM (fun W => ?_) (by show l.toArray.size = 16; rw [List.size_toArray, h.1]) h.2
  have hd := Decode_ok hexS 4 false ⟨(hexL l).toArray⟩ W (.inl rfl) rfl (by show (hexL l).toArray.size ≤ _; rw [List.size_toArray, hl]; omega) henc
  rwa [dec_hex] at hd
/-- A text that is no id's. -/
theorem Parse_bad (s : ByteArray) (h : ∀ l, ¬ IsId s.data.toList l) (hs : s.size ≤ 50000) (w : World) (hM : M w) :
    Calls Tryz.prog 7 #[.string s] w fun e w' => e = .returned (.tuple #[.agg z16.toArray, .int .i64 4]) ∧ Below w.heap.size w w' := by
  obtain ⟨t, ht⟩ : ∃ t : ByteArray, (⟨(strip s.data.toList).toArray⟩ : ByteArray) = t := ⟨_, rfl⟩
  have hts : t.size ≤ 100000 := by
    rw [← ht]
    show (strip s.data.toList).toArray.size ≤ _
    rw [List.size_toArray]
    have h1 : (strip s.data.toList).length ≤ s.data.toList.length := List.length_filter_le _ _
    have h2 : s.data.toList.length = s.size := by simp
    omega
  by_cases he : encS hexS 4 false (decS hexS 4 t) = t
  · by_cases hz : (decS hexS 4 t).size = 16
    · exact parse_other s t (decS hexS 4 t) 0 ht (by omega) w hM (fun W => Decode_ok hexS 4 false t W (.inl rfl) rfl hts he) hz (fun e => h _ ⟨by rw [← hz]; simp, e⟩)
    · exact parse_short s t (decS hexS 4 t) 0 ht (by omega) w hM (fun W => Decode_ok hexS 4 false t W (.inl rfl) rfl hts he) hz
  · exact parse_short s t ⟨#[]⟩ 4 ht (by omega) w hM (fun W => Decode_bad hexS 4 false t W (.inl rfl) rfl hts he) (by decide)
end Go.Proofs.YtdhplohppcndhaaGreatDoor

namespace Go.Proofs.YtdhplohppcndhaaGreatDoor
open Go.RowKit
set_option linter.unusedVariables false

/-- The first k bytes, noughts behind. -/
def irow (l : List UInt8) (k : Nat) : List Value := (l.take k).map bv ++ List.replicate (16 - k) (.int .u8 0)
theorem irow_length (l : List UInt8) (hl : l.length = 16) {k : Nat} (h : k ≤ 16) : (irow l k).length = 16 := by unfold irow; simp [hl]; omega
theorem irow_set (l : List UInt8) (hl : l.length = 16) {k : Nat} (h : k < 16) (x : UInt8) (hx : l[k]? = some x) : (irow l k).set k (.int .u8 x.toNat) = irow l (k + 1) := by
  unfold irow
  have hk : ((l.take k).map bv).length = k := by simp [hl]; omega
  have e : 16 - k = (16 - (k + 1)) + 1 := by omega
  rw [e, List.replicate_succ, List.set_append_right _ _ (by omega), hk, Nat.sub_self, List.set_cons_zero, List.take_add_one, hx, List.map_append, List.append_assoc]
  rfl
theorem irow_all (l : List UInt8) (hl : l.length = 16) : irow l 16 = l.map bv := by
  unfold irow
  rw [List.take_of_length_le (by rw [hl]; exact Nat.le_refl _)]
  simp
theorem u8_info6 : (Tryz.prog.info? 5).map (fun i => (i.zero, i.size, i.bytes)) = some (some (.int .u8 0), 1, 1) := by kernel_rfl
theorem made16 : madeCells #[.int .u8 0] 16 = z16.toArray := by kernel_rfl

set_option maxRecDepth 20000 in
set_option maxHeartbeats 2000000 in
theorem raw_any (l : List UInt8) (hl : l.length = 16) (w : World) :
    Calls Tryz.prog 28 #[.agg (l.map bv).toArray] w fun e w' => e = .returned (.string ⟨l.toArray⟩) ∧ Below w.heap.size w w' := by
  obtain ⟨i0, hi0, hz0, hz1, hz2⟩ := info_parts u8_info6
  have hmk : ∀ W : World, (Instr.makeSlice 44 (.int .i64 16) (.int .i64 16)).run Tryz.prog W = .ok (.slice (some ⟨W.heap.size, 0, none⟩) 16 16) (W.alloc (.cells z16.toArray 5)) := fun W => by
    rw [← made16]
    exact run_make_row 44 5 i0 (.int .u8 0) Tryz.underlying44 hi0 hz0 hz1 rfl .i64 .i64 16 (by rw [hz2]; decide) (by decide) W
  have h := hmk (w.alloc (.cells (l.map bv).toArray 23))
  rw [World.size_alloc] at h
  have r0 := (Row.new w 23 (l.map bv)).alloc (.cells z16.toArray 5)
  have r1 := Row.new (w.alloc (.cells (l.map bv).toArray 23)) 5 z16
  rw [World.size_alloc] at r1
  have b1 : Below w.heap.size w ((w.alloc (.cells (l.map bv).toArray 23)).alloc (.cells z16.toArray 5)) := ((Below.refl _ _).alloc (Nat.le_refl _) _).alloc (by simp) _
  obtain ⟨C, hC⟩ : ∃ C, l.map bv = C := ⟨_, rfl⟩
  have hcg : ∀ (k : Nat) (x : UInt8), l[k]? = some x → C[k]? = some (Value.int .u8 x.toNat) := by
    intro k x hx
    rw [← hC, List.getElem?_map, hx]; rfl
  rw [hC] at h r0 r1 b1 ⊢
  have HC := Lib.hid (And.intro hcg hl)
  have H := Lib.hid (And.intro r0 (And.intro r1 b1))
  clear hmk hi0 hz0 hz1 hz2 r0 r1 b1 hC hl hcg
  go_enter Tryz.func28, Tryz.ntmps28
  go_wp2
  obtain ⟨r0, r1, b1⟩ := H.out
  generalize (w.alloc (.cells C.toArray 23)).alloc (.cells z16.toArray 5) = w1 at r0 r1 b1 ⊢
  clear h H
  go_loopw [4] (fun i wr => ∃ k : Nat, k ≤ 16 ∧ i = .int .i64 k ∧ Row wr (w.heap.size + 1) 5 (irow l k) ∧ Row wr w.heap.size 23 C ∧ Below w.heap.size w wr) (fun i _ => 16 - (intOf i).toNat)
  case atStart => exact ⟨0, Nat.zero_le _, rfl, r1, r0, b1⟩
  case round =>
    obtain ⟨k, hk, rfl, h1, h3, h2⟩ := hrel
    clear r1 r0 b1
    by_cases hlt : k < 16
    · obtain ⟨x, hx⟩ : ∃ x, l[k]? = some x := ⟨_, List.getElem?_eq_getElem (by rw [HC.out.2]; exact hlt)⟩
      have hcx : wr.cell? ⟨w.heap.size, k, none⟩ = some (.int .u8 (x.toNat : Int)) := by rw [h3.cell]; exact HC.out.1 k x hx
      obtain ⟨v0, hc0⟩ : ∃ v, wr.cell? ⟨w.heap.size + 1, k, none⟩ = some v := by
        rw [h1.cell]; exact ⟨_, List.getElem?_eq_getElem (by rw [irow_length l HC.out.2 hk]; exact hlt)⟩
      have hf0 := h1.frozen k
      have hs1 := h1.set k (.int .u8 (x.toNat : Int))
      rw [irow_set l HC.out.2 hlt x hx] at hs1
      have hs2 := h2.setCell (p := ⟨w.heap.size + 1, k, none⟩) (by show w.heap.size ≤ w.heap.size + 1; omega) (.int .u8 (x.toNat : Int))
      have hs3 := h3.far (p := ⟨w.heap.size + 1, k, none⟩) (by show w.heap.size ≠ w.heap.size + 1; omega) (.int .u8 (x.toNat : Int))
      have H := Lib.hid (And.intro hs1 (And.intro hs3 hs2))
      have hkI : (k : Int) < 16 := by omega
      clear hs1 hs2 hs3 h1 h2 h3 hx
      go_wp2
      go_roundw
      case rel => exact ⟨k + 1, by omega, by go_num, H.out.1, H.out.2.1, H.out.2.2⟩
      case measure => simp [intOf]; omega
    · have hk2 : k = 16 := by omega
      rw [hk2, irow_all l HC.out.2] at h1
      have hge : 16 ≤ k := by omega
      have hcv := conv_bytes (P := Tryz.prog) wr 44 9 5 Tryz.underlying44 Tryz.underlying5 Tryz.underlying9 (w.heap.size + 1) 0 16 16 l HC.out.2 (fun i hi => by
        rw [Nat.zero_add, h1.cell])
      have H := Lib.hid h2
      clear hk2 hlt hk h1 h2 h3
      go_wp2
      go_ret
      exact ⟨rfl, H.out⟩

set_option maxRecDepth 20000 in
set_option maxHeartbeats 2000000 in
theorem of_any (s : ByteArray) (hs : s.size = 16) (w : World) :
    Calls Tryz.prog 26 #[.string s] w fun e w' => e = .returned (.agg (s.data.toList.map bv).toArray) ∧ Below w.heap.size w w' := by
  have hz := (zero_of_info u16_info).1
  have hl : s.data.toList.length = 16 := by rw [← hs]; simp
  obtain ⟨l, hll⟩ : ∃ l, s.data.toList = l := ⟨_, rfl⟩
  have hget : ∀ k (h : k < s.size), l[k]? = some s[k] := fun k h => by
    rw [← hll, Array.getElem?_toList, Array.getElem?_eq_getElem h]; rfl
  rw [hll] at hl ⊢
  have r0 := (Row.new w 23 z16).alloc (.cells z16.toArray 23)
  have r1 := Row.new (w.alloc (.cells z16.toArray 23)) 23 z16
  rw [World.size_alloc] at r1
  have b1 : Below w.heap.size w ((w.alloc (.cells z16.toArray 23)).alloc (.cells z16.toArray 23)) := ((Below.refl _ _).alloc (Nat.le_refl _) _).alloc (by simp) _
  have H := Lib.hid (And.intro r0 (And.intro r1 b1))
  have HL := Lib.hid (And.intro hl (And.intro hget hs))
  have hsI : (16 : Int) ≤ (s.size : Int) := by omega
  clear hll hl hget hs r0 r1 b1
  go_enter Tryz.func26, Tryz.ntmps26
  go_wp2
  obtain ⟨r0, r1, b1⟩ := H.out
  generalize (w.alloc (.cells z16.toArray 23)).alloc (.cells z16.toArray 23) = w1 at r0 r1 b1 ⊢
  clear H
  go_loopw [4] (fun i wr => ∃ k : Nat, k ≤ 16 ∧ i = .int .i64 k ∧ Row wr (w.heap.size + 1) 23 (irow l k) ∧ Row wr w.heap.size 23 z16 ∧ Below w.heap.size w wr) (fun i _ => 16 - (intOf i).toNat)
  case atStart => exact ⟨0, Nat.zero_le _, rfl, r1, r0, b1⟩
  case round =>
    obtain ⟨k, hk, rfl, h1, h3, h2⟩ := hrel
    clear r1 r0 b1
    by_cases hlt : k < 16
    · have hks : k < s.size := by omega
      obtain ⟨x, hx⟩ : ∃ x, s[k] = x := ⟨_, rfl⟩
      have hlx := HL.out.2.1 k hks
      rw [hx] at hlx
      obtain ⟨v0, hc0⟩ : ∃ v, wr.cell? ⟨w.heap.size + 1, k, none⟩ = some v := by
        rw [h1.cell]; exact ⟨_, List.getElem?_eq_getElem (by rw [irow_length l HL.out.1 hk]; exact hlt)⟩
      have hf0 := h1.frozen k
      have hs1 := h1.set k (.int .u8 (x.toNat : Int))
      rw [irow_set l HL.out.1 hlt x hlx] at hs1
      have hs2 := h2.setCell (p := ⟨w.heap.size + 1, k, none⟩) (by show w.heap.size ≤ w.heap.size + 1; omega) (.int .u8 (x.toNat : Int))
      have hs3 := h3.far (p := ⟨w.heap.size + 1, k, none⟩) (by show w.heap.size ≠ w.heap.size + 1; omega) (.int .u8 (x.toNat : Int))
      have H := Lib.hid (And.intro hs1 (And.intro hs3 hs2))
      have hkI : (k : Int) < 16 := by omega
      clear hs1 hs2 hs3 h1 h2 h3 hlx
      go_wp2
      go_roundw
      case rel => exact ⟨k + 1, by omega, by go_num, H.out.1, H.out.2.1, H.out.2.2⟩
      case measure => simp [intOf]; omega
    · have hk2 : k = 16 := by omega
      rw [hk2, irow_all l HL.out.1] at h1
      have hge : 16 ≤ k := by omega
      have hone := one_bytes l
      obtain ⟨C, hC⟩ : ∃ C, l.map bv = C := ⟨_, rfl⟩
      have hCl : C.length = 16 := by rw [← hC, List.length_map, HL.out.1]
      rw [hC] at h1 hone
      have HO := Lib.hid (And.intro hone (And.intro hCl hC))
      clear hk2 hlt hk hone hC hCl
      go_wp2_with (first
        | (refine wpList_load_row rfl 23 (.tmp 3) rfl (w.heap.size + 1) rfl 23 C.toArray (0, 0) _ h1 Tryz.underlying23 rfl (by rw [u16_size, List.size_toArray, HO.out.2.1]) ?_)
        | (refine wpList_store_row rfl 23 (.tmp 2) (.tmp 14) rfl w.heap.size C.toArray rfl rfl 23 z16.toArray h3 (by rw [u16_size, List.size_toArray, HO.out.2.1]) (by rw [List.size_toArray, List.size_toArray, HO.out.2.1]; rfl) HO.out.1 ?_))
      have hr := h3.put C
      have hbs := below_setRow (B := w.heap.size) h2 (Nat.le_refl _) C.toArray
      exact bodyPost_ret (v := .agg C.toArray) (results_cell_row rfl _ _ w.heap.size 23 C.toArray (0, 0) _ rfl hr Tryz.underlying23 rfl (by rw [u16_size, List.size_toArray, HO.out.2.1])) rfl ⟨by rw [HO.out.2.2], hbs⟩
end Go.Proofs.YtdhplohppcndhaaGreatDoor

namespace Go.Proofs.YtdhplohppcndhaaGreatDoor
open Go.RowKit
set_option linter.unusedVariables false

theorem cat_run {P : Program} (a b c : ByteArray) (h : a ++ b = c) (hs : c.size ≤ 1000) (W : World) : (Op.stringOp .add a b).run P W = .ok (.string c) W := by
  rw [← h]
  exact run_string_add_sum W a b (by rw [← ByteArray.size_append, h]; omega)

set_option maxRecDepth 20000 in
set_option maxHeartbeats 2000000 in
theorem idRefText_any (l : List UInt8) (hl : l.length = 16) (w : World) :
    Calls Tryz.prog 9 #[.agg (l.map bv).toArray] w fun e w' => e = .returned (.string ⟨(idL l).toArray⟩) ∧ Below w.heap.size w w' := by
  have hHl : (hexL l).length = 32 := by rw [hexL_length, hl]
  have hR := fun W => raw_any l hl W
  have hE : ∀ W : World, Calls Tryz.prog 27 #[.int .i64 0, .string ⟨l.toArray⟩] W fun e w' => e = .returned (.string ⟨(hexL l).toArray⟩) ∧ W = w' := fun W => by
    have h := refEncode_any 0 ⟨l.toArray⟩ W (by omega) (by show l.toArray.size ≤ _; rw [List.size_toArray, hl]; omega)
    rw [show encS (letS 0) (bitK 0) (filB 0) ⟨l.toArray⟩ = ⟨(hexL l).toArray⟩ from encS_hex _] at h
    exact h
  obtain ⟨h, hh⟩ : ∃ h : ByteArray, (⟨(hexL l).toArray⟩ : ByteArray) = h := ⟨_, rfl⟩
  have hhd : h.data.toList = hexL l := by rw [← hh]
  have hhs : h.size = 32 := by rw [← hh]; show (hexL l).toArray.size = 32; rw [List.size_toArray, hHl]
  rw [hh] at hE
  obtain ⟨a0, ea0⟩ : ∃ a, h.extract 0 8 = a := ⟨_, rfl⟩
  obtain ⟨a1, ea1⟩ : ∃ a, h.extract 8 12 = a := ⟨_, rfl⟩
  obtain ⟨a2, ea2⟩ : ∃ a, h.extract 12 16 = a := ⟨_, rfl⟩
  obtain ⟨a3, ea3⟩ : ∃ a, h.extract 16 20 = a := ⟨_, rfl⟩
  obtain ⟨a4, ea4⟩ : ∃ a, h.extract 20 h.size = a := ⟨_, rfl⟩
  have s0 : a0.size = 8 := by rw [← ea0, ByteArray.size_extract, hhs]; rfl
  have s1 : a1.size = 4 := by rw [← ea1, ByteArray.size_extract, hhs]; rfl
  have s2 : a2.size = 4 := by rw [← ea2, ByteArray.size_extract, hhs]; rfl
  have s3 : a3.size = 4 := by rw [← ea3, ByteArray.size_extract, hhs]; rfl
  have s4 : a4.size = 12 := by rw [← ea4, ByteArray.size_extract, hhs]; rfl
  have sd : (ByteArray.mk #[45]).size = 1 := rfl
  obtain ⟨b0, eb0⟩ : ∃ b, a0 ++ (⟨#[45]⟩ : ByteArray) = b := ⟨_, rfl⟩
  obtain ⟨b1, eb1⟩ : ∃ b, b0 ++ a1 = b := ⟨_, rfl⟩
  obtain ⟨b2, eb2⟩ : ∃ b, b1 ++ (⟨#[45]⟩ : ByteArray) = b := ⟨_, rfl⟩
  obtain ⟨b3, eb3⟩ : ∃ b, b2 ++ a2 = b := ⟨_, rfl⟩
  obtain ⟨b4, eb4⟩ : ∃ b, b3 ++ (⟨#[45]⟩ : ByteArray) = b := ⟨_, rfl⟩
  obtain ⟨b5, eb5⟩ : ∃ b, b4 ++ a3 = b := ⟨_, rfl⟩
  obtain ⟨b6, eb6⟩ : ∃ b, b5 ++ (⟨#[45]⟩ : ByteArray) = b := ⟨_, rfl⟩
  obtain ⟨b7, eb7⟩ : ∃ b, b6 ++ a4 = b := ⟨_, rfl⟩
  have z0 : b0.size = 9 := by rw [← eb0, ByteArray.size_append, s0, sd]
  have z1 : b1.size = 13 := by rw [← eb1, ByteArray.size_append, z0, s1]
  have z2 : b2.size = 14 := by rw [← eb2, ByteArray.size_append, z1, sd]
  have z3 : b3.size = 18 := by rw [← eb3, ByteArray.size_append, z2, s2]
  have z4 : b4.size = 19 := by rw [← eb4, ByteArray.size_append, z3, sd]
  have z5 : b5.size = 23 := by rw [← eb5, ByteArray.size_append, z4, s3]
  have z6 : b6.size = 24 := by rw [← eb6, ByteArray.size_append, z5, sd]
  have z7 : b7.size = 36 := by rw [← eb7, ByteArray.size_append, z6, s4]
  have hfin : (⟨(idL l).toArray⟩ : ByteArray) = b7 := by
    rw [← bytes_of_list (r := b7) (l := idL l)]
    rw [idL_mk, ← eb7, ← eb6, ← eb5, ← eb4, ← eb3, ← eb2, ← eb1, ← eb0, ← ea0, ← ea1, ← ea2, ← ea3, ← ea4, hhs]
    simp only [ByteArray.data_append, Array.toList_append, Lib.extract_data, hhd]
    unfold mkId
    simp
    exact List.take_of_length_le (by rw [List.length_drop, hHl]; exact Nat.le_refl _)
  have r0 := fun W => cat_run (P := Tryz.prog) a0 ⟨#[45]⟩ b0 eb0 (by omega) W
  have r1 := fun W => cat_run (P := Tryz.prog) b0 a1 b1 eb1 (by omega) W
  have r2 := fun W => cat_run (P := Tryz.prog) b1 ⟨#[45]⟩ b2 eb2 (by omega) W
  have r3 := fun W => cat_run (P := Tryz.prog) b2 a2 b3 eb3 (by omega) W
  have r4 := fun W => cat_run (P := Tryz.prog) b3 ⟨#[45]⟩ b4 eb4 (by omega) W
  have r5 := fun W => cat_run (P := Tryz.prog) b4 a3 b5 eb5 (by omega) W
  have r6 := fun W => cat_run (P := Tryz.prog) b5 ⟨#[45]⟩ b6 eb6 (by omega) W
  have r7 := fun W => cat_run (P := Tryz.prog) b6 a4 b7 eb7 (by omega) W
  have n0 := Row.new w 23 (l.map bv)
  obtain ⟨C, hC⟩ : ∃ C, l.map bv = C := ⟨_, rfl⟩
  have hCl : C.length = 16 := by rw [← hC, List.length_map, hl]
  rw [hC] at hR n0 ⊢
  rw [hfin]
  have HR := Lib.hid hR
  have HE := Lib.hid hE
  have H0 := Lib.hid (And.intro n0 hCl)
  have hsI : (32 : Int) ≤ (h.size : Int) := by omega
  have hb0 : Below w.heap.size w (w.alloc (.cells C.toArray 23)) := (Below.refl _ _).alloc (Nat.le_refl _) _
  clear hR hE n0 hCl hC hfin hh hhd hHl hl s0 s1 s2 s3 s4 sd z0 z1 z2 z3 z4 z5 z6 z7 eb0 eb1 eb2 eb3 eb4 eb5 eb6 eb7
  have HS := Lib.hid hhs
  clear hhs
  go_enter Tryz.func9, Tryz.ntmps9
  go_wp2_with (refine wpList_load_row rfl 23 (.tmp 1) rfl w.heap.size rfl 23 C.toArray (0, 0) _ H0.out.1 Tryz.underlying23 rfl (by rw [u16_size, List.size_toArray, H0.out.2]) ?_)
  refine (HR.out _).mono ?_
  rintro e w1 ⟨rfl, hb1⟩
  have hb2 := hb0.trans (hb1.mono (by simp))
  go_wp2_with fail
  refine (HE.out _).mono ?_
  rintro e w2 ⟨rfl, rfl⟩
  go_wp2_with fail
  go_quiet (fail)
  go_wp2
  go_ret
  exact ⟨rfl, below_drewN hb2 _⟩

theorem neq45 (c : UInt8) (h : c ≠ 45) : ((c.toNat : Int) != 45) = true := by
  rw [bne_iff_ne]
  intro e
  exact h (UInt8.toNat_inj.1 (by show c.toNat = 45; omega))
theorem eq45 : (((45 : UInt8).toNat : Int) != 45) = false := by decide

set_option maxRecDepth 20000 in
set_option maxHeartbeats 4000000 in
/-- Of another size, or without its strokes. -/
theorem refParse_form (s : ByteArray) (h : s.size ≠ 36 ∨ (∃ hs : s.size = 36, ¬ (s[8] = 45 ∧ s[13] = 45 ∧ s[18] = 45 ∧ s[23] = 45))) (w : World) :
    Calls Tryz.prog 8 #[.string s] w fun e w' => e = .returned (.tuple #[.agg z16.toArray, .bool false]) ∧ Below w.heap.size w w' := by
  have hz := (zero_of_info u16_info).1
  have hr7 := Row.new w 23 z16
  have hb7 : Below w.heap.size w (w.alloc (.cells z16.toArray 23)) := (Below.refl w.heap.size w).alloc (Nat.le_refl _) (.cells z16.toArray 23)
  have H := Lib.hid (And.intro hr7 hb7)
  have hp := hr7.put z16
  have hq := below_setRow (B := w.heap.size) hb7 (Nat.le_refl _) z16.toArray
  have HQ := Lib.hid (And.intro hp hq)
  clear hr7 hb7 hp hq
  rcases h with h | ⟨hs, h⟩
  · have hrI : ((s.size : Int) != 36) = true := by rw [bne_iff_ne]; omega
    clear h
    go_enter Tryz.func8, Tryz.ntmps8
    go_wp2_with (refine wpList_store_row rfl 23 (.tmp 2) (.tmp 29) rfl w.heap.size z16.toArray rfl rfl 23 z16.toArray H.out.1 u16_size rfl z16_one ?_)
    exact bodyPost_ret (v := .tuple #[.agg z16.toArray, .bool false]) (results_row_tmp rfl _ _ w.heap.size 23 z16.toArray (0, 0) _ rfl HQ.out.1 Tryz.underlying23 rfl u16_size _ rfl) rfl ⟨rfl, HQ.out.2⟩
  · have hrI : ((s.size : Int) != 36) = false := by rw [hs]; rfl
    have i8 : 8 < s.size := by omega
    have i13 : 13 < s.size := by omega
    have i18 : 18 < s.size := by omega
    have i23 : 23 < s.size := by omega
    obtain ⟨c8, e8⟩ : ∃ c, s[8] = c := ⟨_, rfl⟩
    obtain ⟨c13, e13⟩ : ∃ c, s[13] = c := ⟨_, rfl⟩
    obtain ⟨c18, e18⟩ : ∃ c, s[18] = c := ⟨_, rfl⟩
    obtain ⟨c23, e23⟩ : ∃ c, s[23] = c := ⟨_, rfl⟩
    rw [e8, e13, e18, e23] at h
    have hc : c8 ≠ 45 ∨ (c8 = 45 ∧ c13 ≠ 45) ∨ (c8 = 45 ∧ c13 = 45 ∧ c18 ≠ 45) ∨ (c8 = 45 ∧ c13 = 45 ∧ c18 = 45 ∧ c23 ≠ 45) := by
      by_cases h8 : c8 = 45
      · by_cases h13 : c13 = 45
        · by_cases h18 : c18 = 45
          · exact .inr (.inr (.inr ⟨h8, h13, h18, fun h23 => h ⟨h8, h13, h18, h23⟩⟩))
          · exact .inr (.inr (.inl ⟨h8, h13, h18⟩))
        · exact .inr (.inl ⟨h8, h13⟩)
      · exact .inl h8
    clear h hs
    rcases hc with h | ⟨rfl, h⟩ | ⟨rfl, rfl, h⟩ | ⟨rfl, rfl, rfl, h⟩
    all_goals
      have hn := neq45 _ h
      have h45 := eq45
      clear h
      go_enter Tryz.func8, Tryz.ntmps8
      go_wp2_with (refine wpList_store_row rfl 23 (.tmp 2) (.tmp 29) rfl w.heap.size z16.toArray rfl rfl 23 z16.toArray H.out.1 u16_size rfl z16_one ?_)
      exact bodyPost_ret (v := .tuple #[.agg z16.toArray, .bool false]) (results_row_tmp rfl _ _ w.heap.size 23 z16.toArray (0, 0) _ rfl HQ.out.1 Tryz.underlying23 rfl u16_size _ rfl) rfl ⟨rfl, HQ.out.2⟩

set_option maxRecDepth 20000 in
set_option maxHeartbeats 4000000 in
/-- Of that form: as its letters are read. -/
theorem refParse_mid (s t x : ByteArray) (ok : Bool) (hs : s.size = 36) (h8 : s[8] = 45) (h13 : s[13] = 45) (h18 : s[18] = 45) (h23 : s[23] = 45) (ht : cutId s.data.toList = t.data.toList)
    (hD : ∀ W : World, Calls Tryz.prog 25 #[.int .i64 0, .string t] W fun e w' => e = .returned (.tuple #[.string x, .bool ok]) ∧ Below W.heap.size W w') (R : Array Value) (hx : (ok = true → x.size = 16 ∧ (x.data.toList.map bv).toArray = R) ∧ (ok = false → z16.toArray = R)) (w : World) :
    Calls Tryz.prog 8 #[.string s] w fun e w' => e = .returned (.tuple #[.agg R, .bool ok]) ∧ Below w.heap.size w w' := by
  have hz := (zero_of_info u16_info).1
  have hr7 := Row.new w 23 z16
  have hb7 : Below w.heap.size w (w.alloc (.cells z16.toArray 23)) := (Below.refl w.heap.size w).alloc (Nat.le_refl _) (.cells z16.toArray 23)
  have hrI : ((s.size : Int) != 36) = false := by rw [hs]; rfl
  have i8 : 8 < s.size := by omega
  have i13 : 13 < s.size := by omega
  have i18 : 18 < s.size := by omega
  have i23 : 23 < s.size := by omega
  have h45 := eq45
  obtain ⟨a0, ea0⟩ : ∃ a, s.extract 0 8 = a := ⟨_, rfl⟩
  obtain ⟨a1, ea1⟩ : ∃ a, s.extract 9 13 = a := ⟨_, rfl⟩
  obtain ⟨a2, ea2⟩ : ∃ a, s.extract 14 18 = a := ⟨_, rfl⟩
  obtain ⟨a3, ea3⟩ : ∃ a, s.extract 19 23 = a := ⟨_, rfl⟩
  obtain ⟨a4, ea4⟩ : ∃ a, s.extract 24 s.size = a := ⟨_, rfl⟩
  have s0 : a0.size = 8 := by rw [← ea0, ByteArray.size_extract, hs]; rfl
  have s1 : a1.size = 4 := by rw [← ea1, ByteArray.size_extract, hs]; rfl
  have s2 : a2.size = 4 := by rw [← ea2, ByteArray.size_extract, hs]; rfl
  have s3 : a3.size = 4 := by rw [← ea3, ByteArray.size_extract, hs]; rfl
  have s4 : a4.size = 12 := by rw [← ea4, ByteArray.size_extract, hs]; rfl
  obtain ⟨b1, eb1⟩ : ∃ b, a0 ++ a1 = b := ⟨_, rfl⟩
  obtain ⟨b2, eb2⟩ : ∃ b, b1 ++ a2 = b := ⟨_, rfl⟩
  obtain ⟨b3, eb3⟩ : ∃ b, b2 ++ a3 = b := ⟨_, rfl⟩
  have z1 : b1.size = 12 := by rw [← eb1, ByteArray.size_append, s0, s1]
  have z2 : b2.size = 16 := by rw [← eb2, ByteArray.size_append, z1, s2]
  have z3 : b3.size = 20 := by rw [← eb3, ByteArray.size_append, z2, s3]
  have eb4 : b3 ++ a4 = t := by
    rw [bytes_of_list (r := b3 ++ a4) (l := t.data.toList)]
    rw [← ht, ← eb3, ← eb2, ← eb1, ← ea0, ← ea1, ← ea2, ← ea3, ← ea4, hs]
    simp only [ByteArray.data_append, Array.toList_append, Lib.extract_data]
    unfold cutId
    simp
    exact List.take_of_length_le (by rw [List.length_drop]; have : s.data.toList.length = s.size := by simp
                                     omega)
  have z4 : t.size = 32 := by rw [← eb4, ByteArray.size_append, z3, s4]
  have r1 := fun W => cat_run (P := Tryz.prog) a0 a1 b1 eb1 (by omega) W
  have r2 := fun W => cat_run (P := Tryz.prog) b1 a2 b2 eb2 (by omega) W
  have r3 := fun W => cat_run (P := Tryz.prog) b2 a3 b3 eb3 (by omega) W
  have r4 := fun W => cat_run (P := Tryz.prog) b3 a4 t eb4 (by omega) W
  have HD := Lib.hid hD
  have H0 := Lib.hid (And.intro hr7 hb7)
  have HX := Lib.hid hx
  have hsI : (36 : Int) ≤ (s.size : Int) := by omega
  have HS := Lib.hid hs
  have k8 : s[8]'i8 = 45 := h8
  have k13 : s[13]'i13 = 45 := h13
  have k18 : s[18]'i18 = 45 := h18
  have k23 : s[23]'i23 = 45 := h23
  clear h8 h13 h18 h23
  clear hD hr7 hb7 hx hs s0 s1 s2 s3 s4 z1 z2 z3 z4 eb1 eb2 eb3 eb4 ht
  go_enter Tryz.func8, Tryz.ntmps8
  go_wp2_with fail
  obtain ⟨q0, b0⟩ := H0.out
  generalize w.alloc (.cells z16.toArray 23) = w0 at q0 b0 ⊢
  refine region_quiet_lit (Below w0.heap.size w0) (by kernel_rfl) (by kernel_rfl) (below_drewN (Below.refl _ _) 1) ?_
  repeat (go_big_quiet_step ((first
    | (intro hC; with_reducible rfl)
    | (intro hC; go_at_call 25; refine (HD.out _).mono ?_; rintro e w'' ⟨rfl, hb⟩; exact ⟨rfl, hC.trans (hb.mono hC.size)⟩))))
  refine wpQuiet_nil ?_
  intro w1 hw1
  have q1 := q0.below hw1 q0.lt
  have b1' := b0.trans (hw1.mono b0.size)
  clear q0 b0 hw1 r1 r2 r3 r4 ea0 ea1 ea2 ea3 ea4 H0
  cases ok with
  | false =>
    have HZR := Lib.hid (HX.out.2 rfl)
    clear HX
    go_wp2_with (refine wpList_store_row rfl 23 (.tmp 2) (.tmp 50) rfl w.heap.size z16.toArray rfl rfl 23 z16.toArray q1 u16_size rfl z16_one ?_)
    have hp := q1.put z16
    have hq := below_setRow (B := w.heap.size) b1' (Nat.le_refl _) z16.toArray
    exact bodyPost_ret (v := .tuple #[.agg z16.toArray, .bool false]) (results_row_tmp rfl _ _ w.heap.size 23 z16.toArray (0, 0) _ rfl hp Tryz.underlying23 rfl u16_size _ rfl) rfl ⟨by rw [HZR.out], hq⟩
  | true =>
    have hO := fun W => of_any x (HX.out.1 rfl).1 W
    have hone := one_bytes x.data.toList
    have hl : x.data.toList.length = 16 := by rw [← (HX.out.1 rfl).1]; simp
    obtain ⟨C, hC⟩ : ∃ C, x.data.toList.map bv = C := ⟨_, rfl⟩
    have hCl : C.length = 16 := by rw [← hC, List.length_map, hl]
    rw [hC] at hO hone
    have hCR : C.toArray = R := by rw [← hC]; exact (HX.out.1 rfl).2
    have HO := Lib.hid hO
    have HN := Lib.hid (And.intro hone hCl)
    have HCR := Lib.hid hCR
    clear hO hone hl hC hCl hCR HX
    go_wp2_with fail
    refine (HO.out _).mono ?_
    rintro e w2 ⟨rfl, hb2⟩
    have q2 := q1.below hb2 q1.lt
    have b2' := b1'.trans (hb2.mono b1'.size)
    clear q1 b1' hb2
    go_wp2_with (refine wpList_store_row rfl 23 (.tmp 2) (.tmp 52) rfl w.heap.size C.toArray rfl rfl 23 z16.toArray q2 (by rw [u16_size, List.size_toArray, HN.out.2]) (by rw [List.size_toArray, List.size_toArray, HN.out.2]; rfl) HN.out.1 ?_)
    have hp := q2.put C
    have hq := below_setRow (B := w.heap.size) b2' (Nat.le_refl _) C.toArray
    exact bodyPost_ret (v := .tuple #[.agg C.toArray, .bool true]) (results_row_tmp rfl _ _ w.heap.size 23 C.toArray (0, 0) _ rfl hp Tryz.underlying23 rfl (by rw [u16_size, List.size_toArray, HN.out.2]) _ rfl) rfl ⟨by rw [HCR.out], hq⟩

end Go.Proofs.YtdhplohppcndhaaGreatDoor

namespace Go.Proofs.YtdhplohppcndhaaGreatDoor
open Go.RowKit
set_option linter.unusedVariables false

/-- The document's reading of an id's text. -/
theorem refParse_ok (s : ByteArray) (l : List UInt8) (h : IsId s.data.toList l) (w : World) :
    Calls Tryz.prog 8 #[.string s] w fun e w' => e = .returned (.tuple #[.agg (l.map bv).toArray, .bool true]) ∧ Below w.heap.size w w' := by
  have hsl : s.data.toList.length = s.size := by simp
  have hs : s.size = 36 := by rw [← hsl, ← h.2, idL_length l h.1]
  obtain ⟨g8, g13, g18, g23⟩ := id_strokes l h.1
  rw [h.2] at g8 g13 g18 g23
  have hg : ∀ k (hk : k < s.size), s.data.toList[k]? = some 45 → s[k] = 45 := fun k hk e => by
    rw [Array.getElem?_toList, Array.getElem?_eq_getElem hk] at e
    exact Option.some.inj e
  have hHl : (hexL l).length = 32 := by rw [hexL_length, h.1]
  have henc : encS (letS 0) (bitK 0) (filB 0) (decS (letS 0) (bitK 0) ⟨(hexL l).toArray⟩) = ⟨(hexL l).toArray⟩ := by
    show encS hexS 4 false (decS hexS 4 ⟨(hexL l).toArray⟩) = _
    rw [dec_hex, encS_hex]
  refine refParse_mid s ⟨(hexL l).toArray⟩ ⟨l.toArray⟩ true hs (hg 8 (by omega) g8) (hg 13 (by omega) g13) (hg 18 (by omega) g18) (hg 23 (by omega) g23) (by rw [← h.2, cut_id l h.1]) (fun W => ?_) _ ⟨fun _ => ⟨by show l.toArray.size = 16; rw [List.size_toArray, h.1], rfl⟩, fun h => by cases h⟩ w
  refine (refDecode_any 0 ⟨(hexL l).toArray⟩ W (by omega) (by show (hexL l).toArray.size ≤ _; rw [List.size_toArray, hHl]; omega)).mono ?_
  rintro e w' ⟨⟨x, ok, rfl, hx⟩, hb⟩
  refine ⟨?_, hb⟩
  cases ok with
  | false => exact absurd henc (hx.out.2 rfl)
  | true =>
    have h1 : x = decS hexS 4 ⟨(hexL l).toArray⟩ := (hx.out.1 rfl).1
    rw [h1, dec_hex]
/-- The document's reading of any other text. -/
theorem refParse_bad (s : ByteArray) (h : ∀ l, ¬ IsId s.data.toList l) (w : World) :
    Calls Tryz.prog 8 #[.string s] w fun e w' => e = .returned (.tuple #[.agg z16.toArray, .bool false]) ∧ Below w.heap.size w w' := by
  by_cases hf : s.size ≠ 36 ∨ (∃ hs : s.size = 36, ¬ (s[8] = 45 ∧ s[13] = 45 ∧ s[18] = 45 ∧ s[23] = 45))
  · exact refParse_form s hf w
  · have hs : s.size = 36 := Decidable.byContradiction fun hn => hf (.inl hn)
    have hd : s[8] = 45 ∧ s[13] = 45 ∧ s[18] = 45 ∧ s[23] = 45 := Decidable.byContradiction fun hn => hf (.inr ⟨hs, hn⟩)
    have hsl : s.data.toList.length = 36 := by rw [← hs]; simp
    have hg : ∀ k (hk : k < s.size), s[k] = 45 → s.data.toList[k]? = some 45 := fun k hk e => by
      rw [Array.getElem?_toList, Array.getElem?_eq_getElem hk]
      exact congrArg some e
    have hcl : (cutId s.data.toList).length = 32 := by unfold cutId; simp only [List.length_append, List.length_take, List.length_drop, hsl]; omega
    refine refParse_mid s ⟨(cutId s.data.toList).toArray⟩ (if (preN (letS 0) (ByteArray.mk (cutId s.data.toList).toArray).data.toList).length = (ByteArray.mk (cutId s.data.toList).toArray).size then decS (letS 0) (bitK 0) ⟨(cutId s.data.toList).toArray⟩ else ⟨#[]⟩) false hs hd.1 hd.2.1 hd.2.2.1 hd.2.2.2 rfl (fun W => ?_) _ ⟨(fun h => by cases h), fun _ => rfl⟩ w
    refine (refDecode_det 0 ⟨(cutId s.data.toList).toArray⟩ W (by omega) (by show (cutId s.data.toList).toArray.size ≤ _; rw [List.size_toArray, hcl]; omega)).mono ?_
    rintro e w' ⟨hp, hb⟩
    unfold DecPost at hp
    obtain ⟨x, ok, rfl, hx, hdt⟩ := hp
    refine ⟨?_, hb⟩
    cases ok with
    | false => rw [hdt.out rfl]
    | true =>
      exfalso
      have h1 : encS hexS 4 false (decS hexS 4 ⟨(cutId s.data.toList).toArray⟩) = ⟨(cutId s.data.toList).toArray⟩ := (hx.out.1 rfl).2
      rw [encS_hex] at h1
      have h2 : hexL (decS hexS 4 ⟨(cutId s.data.toList).toArray⟩).data.toList = cutId s.data.toList := by
        have := congrArg (fun b : ByteArray => b.data.toList) h1
        exact this
      exact h _ (isId_of_cut _ _ hsl (hg 8 (by omega) hd.1) (hg 13 (by omega) hd.2.1) (hg 18 (by omega) hd.2.2.1) (hg 23 (by omega) hd.2.2.2) h2.symm)
end Go.Proofs.YtdhplohppcndhaaGreatDoor

namespace Go.Proofs.YtdhplohppcndhaaGreatDoor
open Go.RowKit
set_option linter.unusedVariables false

theorem cmp_snoc (x y : UInt8) : ∀ (a b : List UInt8), a.length = b.length → Lib.compareBytes (a ++ [x]) (b ++ [y]) = if Lib.compareBytes a b = 0 then (if x < y then -1 else if y < x then 1 else 0) else Lib.compareBytes a b
  | [], [], _ => by
    rw [List.nil_append, List.nil_append, cmpB_cons]
    simp [Lib.compareBytes]
  | [], _ :: _, h => by simp at h
  | _ :: _, [], h => by simp at h
  | p :: a, q :: b, h => by
    have ih := cmp_snoc x y a b (by simpa using h)
    rw [List.cons_append, List.cons_append, cmpB_cons, cmpB_cons, ih]
    by_cases h1 : p < q
    · simp [h1]
    · by_cases h2 : q < p
      · simp [h1, h2]
      · simp [h1, h2]

set_option maxRecDepth 20000 in
set_option maxHeartbeats 1000000 in
theorem idVersion_any (l : List UInt8) (x : UInt8) (hx : l[6]? = some x) (w : World) :
    Calls Tryz.prog 11 #[.agg (l.map bv).toArray] w fun e w' => e = .returned (.int .i64 ((x.toNat : Int) / 16)) ∧ Below w.heap.size w w' := by
  have hr0 := Row.new w 23 (l.map bv)
  have hb0 : Below w.heap.size w (w.alloc (.cells (l.map bv).toArray 23)) := (Below.refl w.heap.size w).alloc (Nat.le_refl _) (.cells (l.map bv).toArray 23)
  have hc6 : (w.alloc (.cells (l.map bv).toArray 23)).cell? ⟨w.heap.size, 6, none⟩ = some (.int .u8 (x.toNat : Int)) := by
    rw [hr0.cell, List.getElem?_map, hx]; rfl
  have hxl := UInt8.toNat_lt x
  obtain ⟨C, hC⟩ : ∃ C, l.map bv = C := ⟨_, rfl⟩
  rw [hC] at hb0 hc6 ⊢
  have HB := Lib.hid hb0
  clear hr0 hb0 hC hx
  go_enter Tryz.func11, Tryz.ntmps11
  go_wp2
  go_ret
  exact ⟨rfl, HB.out⟩
end Go.Proofs.YtdhplohppcndhaaGreatDoor

namespace Go.Proofs.YtdhplohppcndhaaGreatDoor
open Go.RowKit
set_option linter.unusedVariables false

theorem laidMet_tail {P : Program} {x : String × DataW Unit} {r : List (String × DataW Unit)} {w : World} (h : laidMet P (x :: r) w) : laidMet P r w := by
  obtain ⟨ps, hv, hn, hc⟩ := h
  obtain ⟨n, d⟩ := x
  obtain ⟨g, t, cs, fuel, p, q, _, _, _, _, hq, rfl⟩ := hv
  exact ⟨q, hq, (List.nodup_append.1 hn).2.1, fun b off hb => hc b off (List.mem_append.2 (.inr hb))⟩
theorem G_of_laid4 {W : World} (h : laidMetH Tryz.prog [("math/bits.deBruijn32tab", Rows.laid_math_bits_deBruijn32tab), ("math/bits.deBruijn64tab", Rows.laid_math_bits_deBruijn64tab), ("internal/strconv.uint64pow10", Rows.laid_internal_strconv_uint64pow10), ("cashier/sha.starts", Rows.laid_cashier_sha_starts)] W) : G W :=
  G_of_tab (Lib.tabIs_of_head (g := 3) (t := 104) (e := 93) (n := 8) (rest := []) (by kernel_rfl) (by kernel_rfl) Tryz.underlying104 Tryz.underlying93 (by kernel_rfl) (by kernel_rfl) (laidMet_tail (laidMet_tail (laidMet_tail h))))
end Go.Proofs.YtdhplohppcndhaaGreatDoor

namespace Go.Proofs.YtdhplohppcndhaaGreatDoor
open Go.RowKit
set_option linter.unusedVariables false

theorem G_of_laid6 {W : World} (h : laidMetH Tryz.prog [("math/bits.deBruijn32tab", Rows.laid_math_bits_deBruijn32tab), ("math/bits.deBruijn64tab", Rows.laid_math_bits_deBruijn64tab), ("internal/strconv.uint64pow10", Rows.laid_internal_strconv_uint64pow10), ("unicode/utf8.acceptRanges", Rows.laid_unicode_utf8_acceptRanges), ("cashier/sha.starts", Rows.laid_cashier_sha_starts), ("unicode/utf8.first", Rows.laid_unicode_utf8_first)] W) : G W :=
  G_of_tab (Lib.tabIs_of_head (g := 3) (t := 104) (e := 93) (n := 8) (rest := [("unicode/utf8.first", Rows.laid_unicode_utf8_first)]) (by kernel_rfl) (by kernel_rfl) Tryz.underlying104 Tryz.underlying93 (by kernel_rfl) (by kernel_rfl) (laidMet_tail (laidMet_tail (laidMet_tail (laidMet_tail h)))))
end Go.Proofs.YtdhplohppcndhaaGreatDoor

namespace Go.Proofs.YtdhplohppcndhaaGreatDoor
open Go.ChangeShapes Go.WideShapes Go.RowKit
set_option linter.unusedVariables false

section
variable {H : Type} {enc : TypeId × Value → H}
theorem returns_shaped_and {a : Assume} {C : Checked} {os : Os} {f : FuncId} {fn : Func} {s : ChangeSpec} {conds : List PathCond} {apart fresh handsOn again : Bool} {X : World → Array Value → Prop}
    (hX : ∀ (w w' : World) (args : Array Value), w.heap = w'.heap → X w args → X w' args)
    (own : ownKnob C.prog.godebug = none) (started : os.Started) (noInit : C.prog.inits.idxOf? f = none) (hfn : C.prog.funcs[f]? = some fn)
    (witness : ∃ (w : World) (tape : Tape) (i : Input), w.os = os ∧ (w.forCall tape i).Shaped C.prog ∧ i.vars = [] ∧ Input.okWide C.prog (w.forCall tape i) .any w.heap.size f i ∧
      ((s.pre enc C.prog fn conds apart (w.forCall tape i).memory i.args ∧ X (w.forCall tape i).memory i.args) ∧ sizedMet enc C.prog fn (OpenSpec.ofChange s) apart (w.forCall tape i).memory i.args) ∧ a.holds C.prog (lone (Frame.enter C.prog f i.args .normal) [] (w.forCall tape i)))
    (contract : ∀ (W : World) (base : Nat) (args : Array Value) (ds gs : List (DataW H)) (before : List MemPlace),
      (∀ (j : Nat) t v, fn.params[j]? = some t → args[j]? = some v → Value.okWide C.prog W .any base t v) →
      DataW.Whole enc C.prog fn.params.toList s.vars apart W args.toList ds gs before →
      conds.all (PathCond.test C.prog ⟨fn.params.toList, ds, s.plain.varTypes C.prog, gs⟩) = true →
      (DataW.weightsEach C.prog (fn.params.toList ++ s.plain.varTypes C.prog) (ds ++ gs)).all (· ≤ reachBytes) = true → X W args → W.ShapedOpen C.prog →
      Calls C.prog f args W fun e W' => ∃ v, e = .returned v ∧ s.post enc C.prog fn apart fresh handsOn again W args v W') :
    ReturnsInHanded a C os f .any (fun w args => (s.pre enc C.prog fn conds apart w args ∧ X w args) ∧ sizedMet enc C.prog fn (OpenSpec.ofChange s) apart w args) (s.post enc C.prog fn apart fresh handsOn again) := by
  refine returnsInHanded_of_calls own started noInit witness ?_
  intro w tape i _ hsh _ hok hpre _
  obtain ⟨_, _, _, fn', hfn', _, _, _, _, hval⟩ := hok
  obtain rfl : fn' = fn := Option.some.inj (hfn'.symm.trans hfn)
  obtain ⟨⟨⟨ds, gs, before, hw, hc⟩, hx⟩, hz⟩ := hpre
  refine (contract (w.forCall tape i) w.heap.size i.args ds gs before hval (DataW.Whole.of_heap (w' := w.forCall tape i) (by rfl) hw) hc (hz.weights hw) (hX _ _ _ (by rfl) hx) hsh).mono fun e W' ⟨v, he, hp⟩ => ?_
  subst he
  exact ChangeSpec.post_blind hp
end

theorem M_of_shaped {W : World} (h : W.ShapedOpen Tryz.prog) : M W :=
  cell_of_shapedOpen_int (t := 3) (zero := #[.int .i64 0]) h (of_decide_eq_true (by kernel_rfl)) (by kernel_rfl) rfl (by kernel_rfl) (by kernel_rfl) Tryz.underlying3
end Go.Proofs.YtdhplohppcndhaaGreatDoor

namespace Go.Proofs.YtdhplohppcndhaaGreatDoor
open Go.RowKit
set_option linter.unusedVariables false

/-- What the boxes hold: two ids, what was read of the one's text, of the text, of it by the document. -/
abbrev TS (w : World) (g1 g2 g3 : Nat) (C D X : List Value) (W : World) : Prop :=
  Row W w.heap.size 23 C ∧ Row W (w.heap.size + 1) 23 D ∧ Row W g1 23 C ∧ Row W g2 23 X ∧ Row W g3 23 X ∧ Below w.heap.size w W

theorem TS.drewN {w : World} {g1 g2 g3 : Nat} {C D X : List Value} {W : World} (h : TS w g1 g2 g3 C D X W) (n : Nat) : TS w g1 g2 g3 C D X (W.drewN n) :=
  ⟨Row.drewN h.1 n, Row.drewN h.2.1 n, Row.drewN h.2.2.1 n, Row.drewN h.2.2.2.1 n, Row.drewN h.2.2.2.2.1 n, below_drewN h.2.2.2.2.2 n⟩
theorem TS.next {w : World} {g1 g2 g3 : Nat} {C D X : List Value} {W W' : World} (h : TS w g1 g2 g3 C D X W) (hb : Below W.heap.size W W') : TS w g1 g2 g3 C D X W' :=
  ⟨h.1.below hb h.1.lt, h.2.1.below hb h.2.1.lt, h.2.2.1.below hb h.2.2.1.lt, h.2.2.2.1.below hb h.2.2.2.1.lt, h.2.2.2.2.1.below hb h.2.2.2.2.1.lt, h.2.2.2.2.2.trans (hb.mono h.2.2.2.2.2.size)⟩

set_option maxRecDepth 100000 in
set_option maxHeartbeats 8000000 in
theorem IdsTexts_walk (l m : List UInt8) (a2 : ByteArray) (hl : l.length = 16) (hm : m.length = 16) (w2 : a2.size ≤ 140737488355328) (w : World) (hG : G w) (hM : M w) :
    Calls Tryz.prog 3 #[.agg (l.map bv).toArray, .agg (m.map bv).toArray, .string a2] w fun e w' => e = .returned (.bool true) ∧ Below w.heap.size w w' := by
  have hr0 := (Row.new w 23 (l.map bv)).alloc (.cells (m.map bv).toArray 23)
  have hr1 := Row.new (w.alloc (.cells (l.map bv).toArray 23)) 23 (m.map bv)
  rw [World.size_alloc] at hr1
  have hb0 : Below w.heap.size w ((w.alloc (.cells (l.map bv).toArray 23)).alloc (.cells (m.map bv).toArray 23)) := ((Below.refl _ _).alloc (Nat.le_refl _) _).alloc (by simp) _
  have H0 := Lib.hid (And.intro hr0 (And.intro hr1 hb0))
  obtain ⟨C, hC⟩ : ∃ C, l.map bv = C := ⟨_, rfl⟩
  obtain ⟨D, hD⟩ : ∃ D, m.map bv = D := ⟨_, rfl⟩
  rw [hC, hD] at H0 ⊢
  clear hr0 hr1 hb0
  have hz := (zero_of_info u16_info).1
  have HG := Lib.hid hG
  have HM := Lib.hid hM
  clear hG hM
  by_cases hbig : 200 < a2.size
  · have hb : (200 : Int) < (a2.size : Int) := by omega
    clear hC hD
    go_enter Tryz.func3, Tryz.ntmps3
    go_wp2_with fail
    obtain ⟨r0, r1, b0⟩ := H0.out
    generalize (w.alloc (.cells C.toArray 23)).alloc (.cells D.toArray 23) = w0 at r0 r1 b0 ⊢
    refine (awake10_any _ (HG.out.below b0)).mono ?_
    rintro e wa ⟨rfl, hba⟩
    go_wp2_with fail
    go_ret
    exact ⟨rfl, b0.trans (hba.mono b0.size)⟩
  · have hb : (a2.size : Int) ≤ 200 := by omega
    obtain ⟨X, f, ok, hXl, hPX, hQX, hfok⟩ : ∃ (X : List UInt8) (f : Int) (ok : Bool), X.length = 16 ∧ (∀ W : World, M W → Calls Tryz.prog 7 #[.string a2] W fun e w' => e = .returned (.tuple #[.agg (X.map bv).toArray, .int .i64 f]) ∧ Below W.heap.size W w') ∧
        (∀ W : World, Calls Tryz.prog 8 #[.string a2] W fun e w' => e = .returned (.tuple #[.agg (X.map bv).toArray, .bool ok]) ∧ Below W.heap.size W w') ∧ ((f = 0 ∧ ok = true) ∨ (f = 4 ∧ ok = false)) := by
      by_cases hid : ∃ x, IsId a2.data.toList x
      · obtain ⟨x, hx⟩ := hid
        exact ⟨x, 0, true, hx.1, fun W h => Parse_ok a2 x hx (by omega) W h, fun W => refParse_ok a2 x hx W, .inl ⟨rfl, rfl⟩⟩
      · have hn : ∀ x, ¬ IsId a2.data.toList x := fun x hx => hid ⟨x, hx⟩
        refine ⟨List.replicate 16 0, 4, false, rfl, fun W h => ?_, fun W => ?_, .inr ⟨rfl, rfl⟩⟩
        · rw [← z16_eq]; exact Parse_bad a2 hn (by omega) W h
        · rw [← z16_eq]; exact refParse_bad a2 hn W
    obtain ⟨ta, hta⟩ : ∃ t : ByteArray, (⟨(idL l).toArray⟩ : ByteArray) = t := ⟨_, rfl⟩
    have htl : ta.data.toList = idL l := by rw [← hta]
    have hts : ta.size = 36 := by
      have : ta.size = ta.data.toList.length := by simp
      rw [this, htl, idL_length l hl]
    have HT : Hid (∀ W : World, Calls Tryz.prog 6 #[.agg C.toArray] W fun e w' => e = .returned (.string ta) ∧ Below W.heap.size W w') := Lib.hid fun W => by
      rw [← hC, ← hta]; exact idText_any l hl W
    have HRT : Hid (∀ W : World, Calls Tryz.prog 9 #[.agg C.toArray] W fun e w' => e = .returned (.string ta) ∧ Below W.heap.size W w') := Lib.hid fun W => by
      rw [← hC, ← hta]; exact idRefText_any l hl W
    have HP : Hid (∀ W : World, M W → Calls Tryz.prog 7 #[.string ta] W fun e w' => e = .returned (.tuple #[.agg C.toArray, .int .i64 0]) ∧ Below W.heap.size W w') := Lib.hid fun W h => by
      rw [← hC]; exact Parse_ok ta l ⟨hl, htl.symm⟩ (by omega) W h
    obtain ⟨c, hc⟩ : ∃ c, Lib.compareBytes l m = c := ⟨_, rfl⟩
    have HCM : Hid (∀ W : World, Calls Tryz.prog 12 #[.agg C.toArray, .agg D.toArray] W fun e w' => e = .returned (.int .i64 c) ∧ Below W.heap.size W w') := Lib.hid fun W => by
      rw [← hc, ← hC, ← hD]; exact Cmp_any l m hl hm W
    obtain ⟨z, hzr⟩ : ∃ z, decide (l = List.replicate 16 0) = z := ⟨_, rfl⟩
    have HZ : Hid (∀ W : World, Calls Tryz.prog 10 #[.agg C.toArray] W fun e w' => e = .returned (.bool z) ∧ Below W.heap.size W w') := Lib.hid fun W => by
      rw [← hzr, ← hC]; exact idZero_any l hl W
    obtain ⟨x6, hx6⟩ : ∃ x, l[6]? = some x := ⟨_, List.getElem?_eq_getElem (by omega)⟩
    have HV : Hid (∀ W : World, Calls Tryz.prog 11 #[.agg C.toArray] W fun e w' => e = .returned (.int .i64 ((x6.toNat : Int) / 16)) ∧ Below W.heap.size W w') := Lib.hid fun W => by
      rw [← hC]; exact idVersion_any l x6 hx6 W
    have hui : (Tryz.prog.info? 5).map (fun i => (i.zero, i.size, i.bytes)) = some (some (.int .u8 0), 1, 1) := by kernel_rfl
    have heq : ∀ (p q : List UInt8), p.length = 16 → q.length = 16 → ∀ W : World, (binOp .eql 23 (.agg (p.map bv).toArray) (.agg (q.map bv).toArray)).run Tryz.prog W = .ok (.bool (decide (p = q))) W := fun p q hp hq W => by
      obtain ⟨i, hi, _⟩ := info_parts hui
      exact arr_eql 23 5 16 p q hp hq Tryz.underlying23 Tryz.underlying5 (Tryz.isAgg5) i hi (by kernel_rfl) W
    obtain ⟨E, hE⟩ : ∃ E, X.map bv = E := ⟨_, rfl⟩
    have HEC : Hid (∀ W : World, (binOp .eql 23 (.agg C.toArray) (.agg C.toArray)).run Tryz.prog W = .ok (.bool true) W) := Lib.hid fun W => by
      have h := heq l l hl hl W
      rwa [hC, show decide (l = l) = true from decide_eq_true rfl] at h
    have HEX : Hid (∀ W : World, (binOp .eql 23 (.agg E.toArray) (.agg E.toArray)).run Tryz.prog W = .ok (.bool true) W) := Lib.hid fun W => by
      have h := heq X X hXl hXl W
      rwa [hE, show decide (X = X) = true from decide_eq_true rfl] at h
    have HEZ : Hid (∀ W : World, (binOp .eql 23 (.agg C.toArray) (.agg zA)).run Tryz.prog W = .ok (.bool z) W) := Lib.hid fun W => by
      have h := heq l (List.replicate 16 0) hl rfl W
      rwa [hC, hzr, ← zA_eq] at h
    rw [hE] at hPX hQX
    have hCl : C.length = 16 := by rw [← hC, List.length_map, hl]
    have hDl : D.length = 16 := by rw [← hD, List.length_map, hm]
    have hEl : E.length = 16 := by rw [← hE, List.length_map, hXl]
    have oC : C.toArray.all (·.oneCell') = true := by rw [← hC]; exact one_bytes l
    have oE : E.toArray.all (·.oneCell') = true := by rw [← hE]; exact one_bytes X
    have hcu : ∀ (k : Nat) (x : UInt8), l[k]? = some x → C[k]? = some (Value.int .u8 (x.toNat : Int)) := fun k x h => by rw [← hC, List.getElem?_map, h]; rfl
    have hcv : ∀ (k : Nat) (x : UInt8), m[k]? = some x → D[k]? = some (Value.int .u8 (x.toNat : Int)) := fun k x h => by rw [← hD, List.getElem?_map, h]; rfl
    have HX := Lib.hid (And.intro hPX hQX)
    have HK := Lib.hid (And.intro hCl (And.intro hDl (And.intro hEl (And.intro oC oE))))
    have HL := Lib.hid (And.intro hl (And.intro hm (And.intro hc (And.intro hcu (And.intro hcv hx6)))))
    clear hPX hQX hCl hDl hEl oC oE heq hE hXl hui hx6 hzr hc hta htl hts hC hD hl hm hcu hcv
    go_enter Tryz.func3, Tryz.ntmps3
    go_wp2_with fail
    obtain ⟨r0, r1, b0⟩ := H0.out
    generalize (w.alloc (.cells C.toArray 23)).alloc (.cells D.toArray 23) = w0 at r0 r1 b0 ⊢
    refine (awake10_any _ (HG.out.below b0)).mono ?_
    rintro e w1 ⟨rfl, hb1⟩
    have q0 := r0.below hb1 r0.lt
    have q1 := r1.below hb1 r1.lt
    have B1 := b0.trans (hb1.mono b0.size)
    clear r0 r1 b0 hb1 H0 HG
    go_wp2_with (refine wpList_load_row rfl 23 (.tmp 3) rfl w.heap.size rfl 23 C.toArray (0, 0) _ q0 Tryz.underlying23 rfl (by rw [u16_size, List.size_toArray, HK.out.1]) ?_)
    refine (HT.out _).mono ?_
    rintro e w2 ⟨rfl, hb2⟩
    have r0 := q0.below hb2 q0.lt
    have r1 := q1.below hb2 q1.lt
    have B2 := B1.trans (hb2.mono B1.size)
    clear q0 q1 B1 hb2
    go_wp2_with fail
    refine (HP.out _ (HM.out.below B2)).mono ?_
    rintro e w3 ⟨rfl, hb3⟩
    have q0 := r0.below hb3 r0.lt
    have q1 := r1.below hb3 r1.lt
    have B3 := B2.trans (hb3.mono B2.size)
    clear r0 r1 B2 hb3
    obtain ⟨G3, HG3⟩ : ∃ g, Hid (w3.heap.size = g) := ⟨_, Lib.hid rfl⟩
    have sq0 := (q0.alloc (.cells z16.toArray 23)).put_far (g' := w3.heap.size) (by have := q0.lt; omega) C.toArray
    have sq1 := (q1.alloc (.cells z16.toArray 23)).put_far (g' := w3.heap.size) (by have := q1.lt; omega) C.toArray
    have sn := (Row.new w3 23 z16).put C
    have sB := below_setRow (B := w.heap.size) (B3.alloc B3.size (.cells z16.toArray 23)) B3.size C.toArray
    clear q0 q1 B3
    go_wp2_with (refine wpList_store_row rfl 23 (.tmp 8) (.tmp 26) rfl w3.heap.size C.toArray rfl rfl 23 z16.toArray (Row.new w3 _ z16) (by rw [u16_size, List.size_toArray, HK.out.1]) (by rw [List.size_toArray, List.size_toArray, HK.out.1]; rfl) HK.out.2.2.2.1 ?_)
    generalize (w3.alloc (.cells z16.toArray 23)).setRow w3.heap.size C.toArray = v3 at sq0 sq1 sn sB ⊢
    rw [HG3.out] at sn ⊢
    clear HG3
    refine (HX.out.1 _ (HM.out.below sB)).mono ?_
    rintro e w4 ⟨rfl, hb4⟩
    have q0 := sq0.below hb4 sq0.lt
    have q1 := sq1.below hb4 sq1.lt
    have q2 := sn.below hb4 sn.lt
    have B4 := sB.trans (hb4.mono sB.size)
    clear sq0 sq1 sn sB hb4
    obtain ⟨G4, HG4⟩ : ∃ g, Hid (w4.heap.size = g) := ⟨_, Lib.hid rfl⟩
    have sq0 := (q0.alloc (.cells z16.toArray 23)).put_far (g' := w4.heap.size) (by have := q0.lt; omega) E.toArray
    have sq1 := (q1.alloc (.cells z16.toArray 23)).put_far (g' := w4.heap.size) (by have := q1.lt; omega) E.toArray
    have sq2 := (q2.alloc (.cells z16.toArray 23)).put_far (g' := w4.heap.size) (by have := q2.lt; omega) E.toArray
    have sn := (Row.new w4 23 z16).put E
    have sB := below_setRow (B := w.heap.size) (B4.alloc B4.size (.cells z16.toArray 23)) B4.size E.toArray
    clear q0 q1 q2 B4
    go_wp2_with (refine wpList_store_row rfl 23 (.tmp 10) (.tmp 31) rfl w4.heap.size E.toArray rfl rfl 23 z16.toArray (Row.new w4 _ z16) (by rw [u16_size, List.size_toArray, HK.out.2.2.1]) (by rw [List.size_toArray, List.size_toArray, HK.out.2.2.1]; rfl) HK.out.2.2.2.2 ?_)
    generalize (w4.alloc (.cells z16.toArray 23)).setRow w4.heap.size E.toArray = v4 at sq0 sq1 sq2 sn sB ⊢
    rw [HG4.out] at sn ⊢
    clear HG4
    refine (HX.out.2 _).mono ?_
    rintro e w5 ⟨rfl, hb5⟩
    have q0 := sq0.below hb5 sq0.lt
    have q1 := sq1.below hb5 sq1.lt
    have q2 := sq2.below hb5 sq2.lt
    have q3 := sn.below hb5 sn.lt
    have B5 := sB.trans (hb5.mono sB.size)
    clear sq0 sq1 sq2 sn sB hb5
    obtain ⟨G5, HG5⟩ : ∃ g, Hid (w5.heap.size = g) := ⟨_, Lib.hid rfl⟩
    have sq0 := (q0.alloc (.cells z16.toArray 23)).put_far (g' := w5.heap.size) (by have := q0.lt; omega) E.toArray
    have sq1 := (q1.alloc (.cells z16.toArray 23)).put_far (g' := w5.heap.size) (by have := q1.lt; omega) E.toArray
    have sq2 := (q2.alloc (.cells z16.toArray 23)).put_far (g' := w5.heap.size) (by have := q2.lt; omega) E.toArray
    have sq3 := (q3.alloc (.cells z16.toArray 23)).put_far (g' := w5.heap.size) (by have := q3.lt; omega) E.toArray
    have sn := (Row.new w5 23 z16).put E
    have sB := below_setRow (B := w.heap.size) (B5.alloc B5.size (.cells z16.toArray 23)) B5.size E.toArray
    clear q0 q1 q2 q3 B5
    go_wp2_with (refine wpList_store_row rfl 23 (.tmp 12) (.tmp 36) rfl w5.heap.size E.toArray rfl rfl 23 z16.toArray (Row.new w5 _ z16) (by rw [u16_size, List.size_toArray, HK.out.2.2.1]) (by rw [List.size_toArray, List.size_toArray, HK.out.2.2.1]; rfl) HK.out.2.2.2.2 ?_)
    generalize (w5.alloc (.cells z16.toArray 23)).setRow w5.heap.size E.toArray = v5 at sq0 sq1 sq2 sq3 sn sB ⊢
    rw [HG5.out] at sn ⊢
    clear HG5
    have hTS : TS w G3 G4 G5 C D E v5 := ⟨sq0, sq1, sq2, sq3, sn, sB⟩
    have HTS := Lib.hid hTS
    clear sq0 sq1 sq2 sq3 sn sB hTS HP HT HM HX
    go_loopw [14, 38] (fun cc i wr => ∃ (k : Nat) (d : Int), k ≤ 16 ∧ i = .int .i64 k ∧ cc = .int .i64 d ∧ Hid (d = Lib.compareBytes (l.take k) (m.take k)) ∧ Hid (TS w G3 G4 G5 C D E wr)) (fun _ i _ => 16 - (intOf i).toNat)
    case atStart => exact ⟨0, 0, Nat.zero_le _, rfl, rfl, Lib.hid rfl, HTS⟩
    case round =>
      obtain ⟨k, d, hk, rfl, rfl, HD, HTK⟩ := hrel
      clear HTS
      by_cases hlt : k < 16
      · obtain ⟨x, hx⟩ : ∃ x, l[k]? = some x := ⟨_, List.getElem?_eq_getElem (by rw [HL.out.1]; exact hlt)⟩
        obtain ⟨y, hy⟩ : ∃ y, m[k]? = some y := ⟨_, List.getElem?_eq_getElem (by rw [HL.out.2.1]; exact hlt)⟩
        have hcx : wr.cell? ⟨w.heap.size, k, none⟩ = some (.int .u8 (x.toNat : Int)) := by rw [HTK.out.1.cell]; exact HL.out.2.2.2.1 k x hx
        have hcy : wr.cell? ⟨w.heap.size + 1, k, none⟩ = some (.int .u8 (y.toNat : Int)) := by rw [HTK.out.2.1.cell]; exact HL.out.2.2.2.2.1 k y hy
        have hstep : Lib.compareBytes (l.take (k + 1)) (m.take (k + 1)) = if d = 0 then (if x < y then -1 else if y < x then 1 else 0) else d := by
          rw [List.take_add_one, List.take_add_one, hx, hy, HD.out]
          exact cmp_snoc x y _ _ (by rw [List.length_take, List.length_take, HL.out.1, HL.out.2.1])
        have hdb : d = -1 ∨ d = 0 ∨ d = 1 := by have h1 := compareBytes_bound (l.take k) (m.take k); rw [← HD.out] at h1; omega
        have hkI : (k : Int) < 16 := by omega
        obtain ⟨d', hd', hcase⟩ : ∃ d' : Int, d' = Lib.compareBytes (l.take (k + 1)) (m.take (k + 1)) ∧ ((d = -1 ∧ d' = -1) ∨ (d = 1 ∧ d' = 1) ∨ (d = 0 ∧ (x.toNat : Int) < (y.toNat : Int) ∧ d' = -1) ∨ (d = 0 ∧ (y.toNat : Int) < (x.toNat : Int) ∧ d' = 1) ∨ (d = 0 ∧ x = y ∧ d' = 0)) := by
          refine ⟨_, rfl, ?_⟩
          rw [hstep]
          rcases hdb with rfl | rfl | rfl
          · exact .inl ⟨rfl, by rw [if_neg (by decide)]⟩
          · rw [if_pos rfl]
            by_cases h1 : x < y
            · exact .inr (.inr (.inl ⟨rfl, by have := UInt8.lt_iff_toNat_lt.1 h1; omega, by rw [if_pos h1]⟩))
            · by_cases h2 : y < x
              · exact .inr (.inr (.inr (.inl ⟨rfl, by have := UInt8.lt_iff_toNat_lt.1 h2; omega, by rw [if_neg h1, if_pos h2]⟩)))
              · exact .inr (.inr (.inr (.inr ⟨rfl, UInt8.le_antisymm (UInt8.not_lt.1 h2) (UInt8.not_lt.1 h1), by rw [if_neg h1, if_neg h2]⟩)))
          · exact .inr (.inl ⟨rfl, by rw [if_neg (by decide)]⟩)
        have HDD := Lib.hid hd'
        clear hx hy hstep hdb hd' HD
        rcases hcase with ⟨rfl, rfl⟩ | ⟨rfl, rfl⟩ | ⟨rfl, hxy, rfl⟩ | ⟨rfl, hxy, rfl⟩ | ⟨rfl, rfl, rfl⟩
        all_goals
          go_wp2_with fail
          go_quiet (fail)
          go_wp2_with fail
          go_quiet (fail)
          go_wp2
          go_roundw
          case rel => exact ⟨k + 1, _, by omega, by go_num, rfl, HDD, Lib.hid (HTK.out.drewN _)⟩
          case measure => simp [intOf]; omega
      · have hk16 : k = 16 := by omega
        have hge : 16 ≤ k := by omega
        have hdc : d = c := by
          rw [HD.out, hk16, List.take_of_length_le (by rw [HL.out.1]; exact Nat.le_refl _), List.take_of_length_le (by rw [HL.out.2.1]; exact Nat.le_refl _)]
          exact HL.out.2.2.1
        subst hdc
        have HR0 : Hid (∀ W, Below wr.heap.size wr W → Row W w.heap.size 23 C) := Lib.hid fun W h => (HTK.out.next h).1
        have HR1 : Hid (∀ W, Below wr.heap.size wr W → Row W (w.heap.size + 1) 23 D) := Lib.hid fun W h => (HTK.out.next h).2.1
        have HR2 : Hid (∀ W, Below wr.heap.size wr W → Row W G3 23 C) := Lib.hid fun W h => (HTK.out.next h).2.2.1
        have HR3 : Hid (∀ W, Below wr.heap.size wr W → Row W G4 23 E) := Lib.hid fun W h => (HTK.out.next h).2.2.2.1
        have HR4 : Hid (∀ W, Below wr.heap.size wr W → Row W G5 23 E) := Lib.hid fun W h => (HTK.out.next h).2.2.2.2.1
        have hl6 : ∀ W, Below wr.heap.size wr W → W.cell? ⟨w.heap.size, 6, none⟩ = some (.int .u8 (x6.toNat : Int)) := fun W h => by
          rw [(HTK.out.next h).1.cell]; exact HL.out.2.2.2.1 6 x6 HL.out.2.2.2.2.2
        have hiU : (Tryz.prog.info? 23).map (·.size) = some 16 := u16_size
        have hiC : (Tryz.prog.info? 23).map (·.size) = some C.length := by rw [HK.out.1]; exact hiU
        have hiD : (Tryz.prog.info? 23).map (·.size) = some D.length := by rw [HK.out.2.1]; exact hiU
        have hiE : (Tryz.prog.info? 23).map (·.size) = some E.length := by rw [HK.out.2.2.1]; exact hiU
        have HI := Lib.hid (And.intro hiC (And.intro hiD (And.intro hiE Tryz.underlying23)))
        have hx6l := UInt8.toNat_lt x6
        clear hk16 hlt hk HD hiU hiC hiD hiE hz
        rcases hfok with ⟨rfl, rfl⟩ | ⟨rfl, rfl⟩
        all_goals
          go_wp2_with fail
          unfold zA at HEZ
          refine region_quiet_lit (Below wr.heap.size wr) (by kernel_rfl) (by kernel_rfl) (below_drewN (Below.refl _ _) 1) ?_
          repeat (first
            | (go_big_quiet_want; (first
                | refine quiet_load_row 23 (.tmp 3) (by rfl) w.heap.size (by rfl) 23 C _ HR0.out HI.out.2.2.2 rfl HI.out.1 ?_
                | refine quiet_load_row 23 (.tmp 4) (by rfl) (w.heap.size + 1) (by rfl) 23 D _ HR1.out HI.out.2.2.2 rfl HI.out.2.1 ?_
                | refine quiet_load_row 23 (.tmp 8) (by rfl) G3 (by rfl) 23 C _ HR2.out HI.out.2.2.2 rfl HI.out.1 ?_
                | refine quiet_load_row 23 (.tmp 10) (by rfl) G4 (by rfl) 23 E _ HR3.out HI.out.2.2.2 rfl HI.out.2.2.1 ?_
                | refine quiet_load_row 23 (.tmp 12) (by rfl) G5 (by rfl) 23 E _ HR4.out HI.out.2.2.2 rfl HI.out.2.2.1 ?_
                | refine quiet_eql_agg 23 (.tmp 73) (.tmp 74) 23 (by rfl) _ _ (by rfl) (by rfl) (by kernel_rfl) _ HEC.out ?_
                | refine quiet_eql_agg 23 (.tmp 91) (.tmp 92) 23 (by rfl) _ _ (by rfl) (by rfl) (by kernel_rfl) _ HEX.out ?_
                | refine quiet_eql_agg 23 (.tmp 98) (.tmp 99) 23 (by rfl) _ _ (by rfl) (by rfl) (by kernel_rfl) _ HEZ.out ?_); go_big_quiet_on; simp only [Act.put, List.setIfInBounds_toArray, List.set_cons_zero, List.set_cons_succ])
            | go_big_quiet_step ((first
              | (intro hC; with_reducible rfl)
              | (intro hC; rw [hl6 _ hC]; exact ⟨rfl, rfl⟩)
              | (intro hC; go_at_call 9; refine (HRT.out _).mono ?_; rintro e w'' ⟨rfl, hb⟩; exact ⟨rfl, hC.trans (hb.mono hC.size)⟩)
              | (intro hC; go_at_call 10; refine (HZ.out _).mono ?_; rintro e w'' ⟨rfl, hb⟩; exact ⟨rfl, hC.trans (hb.mono hC.size)⟩)
              | (intro hC; go_at_call 11; refine (HV.out _).mono ?_; rintro e w'' ⟨rfl, hb⟩; exact ⟨rfl, hC.trans (hb.mono hC.size)⟩)
              | (intro hC; go_at_call 12; refine (HCM.out _).mono ?_; rintro e w'' ⟨rfl, hb⟩; exact ⟨rfl, hC.trans (hb.mono hC.size)⟩))))
          refine wpQuiet_nil ?_
          intro wz hwz
          clear hl6
          go_wp2
          go_ret
          exact ⟨rfl, (HTK.out.next hwz).2.2.2.2.2⟩
end Go.Proofs.YtdhplohppcndhaaGreatDoor

namespace Go.Proofs.YtdhplohppcndhaaGreatDoor.idsTexts
open Go.ChangeShapes Go.WideShapes Go.ChangeAt Go.RowKit
open Go.ChangeMaps (open_string shut_string)
set_option linter.unusedVariables false

theorem own : ownKnob Tryz.prog.godebug = none := by kernel_rfl
theorem laidOut : laidOutB Tryz.prog = true := by kernel_rfl

set_option maxRecDepth 100000 in
theorem lifted (os : Os) (started : os.Started) (H : Type) (enc : TypeId × Value → H) :
    ReturnsInHanded {} Tryz.checked os 3 .any (fun w args => (Rows.idsTextsSpec.pre enc Tryz.prog Tryz.f3 Rows.idsTextsRow.domain false w args ∧ laidMetH Tryz.prog Rows.idsTextsRow.laid w) ∧ sizedMet enc Tryz.prog Tryz.f3 (OpenSpec.ofChange Rows.idsTextsSpec) false w args) (Rows.idsTextsSpec.post enc Tryz.prog Tryz.f3 false true false false) := by
  refine returns_shaped_and (C := Tryz.checked) (X := fun w _ => laidMetH Tryz.prog Rows.idsTextsRow.laid w) (fun _ _ _ hh h => h.of_heap hh) own started (by kernel_rfl) Tryz.func3
    (ChangeSpec.witness_shaped (enc := enc) (C := Tryz.checked) (os := os) (X := fun w _ => laidMetH Tryz.prog Rows.idsTextsRow.laid w) false (World.laidAll Tryz.prog os Rows.idsTextsRow.laid) #[.agg #[.int .u8 0, .int .u8 0, .int .u8 0, .int .u8 0, .int .u8 0, .int .u8 0, .int .u8 0, .int .u8 0, .int .u8 0, .int .u8 0, .int .u8 0, .int .u8 0, .int .u8 0, .int .u8 0, .int .u8 0, .int .u8 0], .agg #[.int .u8 0, .int .u8 0, .int .u8 0, .int .u8 0, .int .u8 0, .int .u8 0, .int .u8 0, .int .u8 0, .int .u8 0, .int .u8 0, .int .u8 0, .int .u8 0, .int .u8 0, .int .u8 0, .int .u8 0, .int .u8 0], .string ByteArray.empty] 8 (World.laidAll_os _ _ _) (World.shaped_of_ZipB (by kernel_rfl) (by kernel_rfl)) (by kernel_rfl) (by kernel_rfl) (by kernel_rfl) (by rw [MakeChecks.laidMetH_plain _ _ _ (by kernel_rfl)]; exact laidMet_laidAll _ (by kernel_rfl) (by kernel_rfl))) ?_
  intro W base args ds gs before hval0 hW hcnd hsz0 hX1 hX2
  have hsz : (DataW.weightsEach Tryz.prog (Tryz.f3.params.toList ++ Rows.idsTextsSpec.plain.varTypes Tryz.prog) (ds ++ gs)).all (· ≤ reachBytes) = true := hsz0
  have hval : ∀ (j : Nat) t v, Tryz.f3.params[j]? = some t → args[j]? = some v → Value.okWide Tryz.prog W .any base t v := hval0
  have hW' := hW
  obtain ⟨p, q, hA0, hV, rfl, hfz, hnd⟩ := hW
  have hA : DataW.TrodAll enc Tryz.prog W 0 (fun _ => true) true Tryz.f3.params.toList args.toList ds p := hA0
  rw [Tryz.params3] at hA hval hsz
  obtain ⟨v0, vs0, d0, ds0, p0, q0, hargs, rfl, rfl, h0, r0⟩ := trodAll_cons hA
  obtain ⟨v1, vs1, d1, ds1, p1, q1, rfl, rfl, rfl, h1, r1⟩ := trodAll_cons r0
  obtain ⟨v2, vs2, d2, ds2, p2, q2, rfl, rfl, rfl, h2, r2⟩ := trodAll_cons r1
  obtain ⟨rfl, rfl, rfl⟩ := trodAll_nil r2
  obtain rfl : args = #[v0, v1, v2] := by cases args; simp_all
  obtain ⟨rfl, rfl⟩ := trodVars_none hV
  have k0 := h0
  have lt0 : ∀ x ∈ p0, x.block < W.heap.size := by obtain ⟨m, hm⟩ := k0; exact DataW.trod_lt m _ _ _ hm
  obtain ⟨l0, w0, rfl⟩ := open_bytes Tryz.underlying23 Tryz.underlying5 (by kernel_rfl) (by kernel_rfl) (hval 0 23 v0 rfl rfl) h0
  have k1 := h1
  have lt1 : ∀ x ∈ p1, x.block < W.heap.size := by obtain ⟨m, hm⟩ := k1; exact DataW.trod_lt m _ _ _ hm
  obtain ⟨l1, w1, rfl⟩ := open_bytes Tryz.underlying23 Tryz.underlying5 (by kernel_rfl) (by kernel_rfl) (hval 1 23 v1 rfl rfl) h1
  obtain ⟨a2, rfl, rfl, rfl, m2⟩ := open_string Tryz.underlying9 (hval 2 9 v2 rfl rfl) h2
  have w2 : a2.size ≤ 140737488355328 := by
    have h47 := reachBytes_lt
    have hh := sized_string hsz (j := 2) (t := 9) rfl rfl
    rw [Array.length_toList] at hh
    exact Nat.le_of_lt (Nat.lt_of_le_of_lt hh h47)
  clear hA0 hval0 hsz hsz0
  simp only [List.append_nil] at hW'
  refine (IdsTexts_walk l0 l1 a2 w0 w1 w2 W (G_of_laid6 hX1) (M_of_shaped hX2)).mono fun e W' ⟨he, bel⟩ => ?_
  subst he
  exact ⟨_, rfl, _, _, _, [], _, [], hW', trodAll_mk1 (shut_bool Tryz.underlying4 _), (trodAll_cons_mk (Below.trod laidOut (by kernel_rfl) (of_decide_eq_true (by kernel_rfl)) k0 bel lt0) (trodAll_cons_mk (Below.trod laidOut (by kernel_rfl) (of_decide_eq_true (by kernel_rfl)) k1 bel lt1) (trodAll_cons_mk (shut_string Tryz.underlying9 m2) trodAll_mk0))), rfl, bel.frame _, fun h => by cases h⟩

theorem over : Rows.idsTextsRow.holds Tryz.pinned (OpenSpec.ofChange Rows.idsTextsSpec) :=
  OpenClaim.holds_of_wide 3 Tryz.f3 rfl rfl rfl rfl rfl rfl rfl ⟨rfl, rfl, rfl, rfl, rfl⟩ rfl rfl rfl rfl rfl (by kernel_rfl) Tryz.func3 (by kernel_rfl)
    (of_decide_eq_true (by kernel_rfl)) (by unfold Func.isWrapper; first | (rw [if_pos (by decide +kernel)]; kernel_rfl) | (rw [if_neg (by decide +kernel)]; exact ⟨rfl, rfl⟩))
    (fun os started H enc _ => lifted os started H enc)

theorem proved : Rows.IdsTextsCardSaid :=
  Claim7.holds_tied_plain_at .later [] [.data, .data, .data, .data, .data, .pinned] true (true, "582309942808c3816f39cbb2e36d06b201a0d376f51611de1735ed66ffbf7b5c") false
    over (fun _ h => by cases h) (by kernel_rfl) (fun _ h => by cases h) idsTexts_row_tie rfl ⟨rfl, rfl⟩ (by kernel_rfl) rfl
    (fun f fn hf hfn => by
      obtain rfl : f = 3 := Option.some.inj ((show Tryz.prog.funcNamed "cashier/cashierlaw10.IdsTexts" = some 3 by kernel_rfl).symm.trans hf) |>.symm
      obtain rfl : fn = Tryz.f3 := (Option.some.inj (Tryz.func3.symm.trans hfn)).symm
      exact ⟨by kernel_rfl, fun j t ht => by
        rw [Tryz.params3] at ht
        have hm : t ∈ [23, 23, 9] := by simpa using Array.mem_of_getElem? ht
        have hall : ([23, 23, 9].all fun u => !Tryz.prog.wantsStandIn u) = true := by kernel_rfl
        exact (show Tryz.prog.wantsStandIn t = false by simpa using List.all_eq_true.1 hall t hm)⟩)
    (by kernel_rfl)

end Go.Proofs.YtdhplohppcndhaaGreatDoor.idsTexts
