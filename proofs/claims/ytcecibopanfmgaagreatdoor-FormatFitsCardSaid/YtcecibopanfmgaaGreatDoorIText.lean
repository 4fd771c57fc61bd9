/- An id's text: the walk. -/
import Derived.Test.YtcecibopanfmgaaGreatDoorIHex
import Derived.Test.YtcecibopanfmgaaGreatDoorSText
import Derived.Test.YtcecibopanfmgaaGreatDoorSHash
namespace Go.Proofs.YtcecibopanfmgaaGreatDoor
open Go.RowKit
set_option linter.unusedVariables false

/-- An array's row, sliced. -/
theorem slice_arr_lh {P : Program} (t e : TypeId) (n : Nat) (ht : P.underlying t = some (.array n e)) (hz : ∀ W, (sizeOf e).run P W = .ok 1 W) (g off l h : Nat) (hl : l ≤ h) (hh : h ≤ n) (hn : l < n) (W : World) :
    (Instr.sliceAt t (.pointer (some ⟨g, off, none⟩)) (some (.int .i64 (l : Int))) (some (.int .i64 (h : Int))) none).run P W = .ok (.slice (some ⟨g, off + l, none⟩) (h - l) (n - l)) W := by
  have hn' : P.arrayLen t = n := by simp [Program.arrayLen, ht]
  have he : P.elem t = e := by simp [Program.elem, ht]
  rw [run_sliceAt_array_lh (P := P) W t ⟨g, off, none⟩ (by rw [hn', he]; exact ht) .i64 .i64 (l : Int) (h : Int) (by omega) (by omega) (by rw [hn']; omega), he, hz, hn']
  have hadd : (⟨g, off, none⟩ : Addr).add l = ⟨g, off + l, none⟩ := by unfold Addr.add; split <;> simp_all
  simp only [Result.andThen_ok, slicedAt, Int.toNat_natCast, if_neg (by omega : ¬ n = l), Nat.mul_one, hadd]

def stN (k : Nat) : Nat := [0, 4, 6, 8, 10, 16].getD k 0
/-- The k-th part's letters. -/
def ptL (l : List UInt8) (k : Nat) : List UInt8 := (l.drop (stN k)).take (stN (k + 1) - stN k)
def ptS (l : List UInt8) (k : Nat) : ByteArray := ⟨(hexL (ptL l k)).toArray⟩
/-- The parts that are there, nothing behind. -/
def ptR (l : List UInt8) (k : Nat) : List Value := (List.range k).map (fun j => Value.string (ptS l j)) ++ List.replicate (5 - k) (.string ⟨#[]⟩)
theorem ptR_set (l : List UInt8) {k : Nat} (h : k < 5) : (ptR l k).set k (.string (ptS l k)) = ptR l (k + 1) := by
  rcases (by omega : k = 0 ∨ k = 1 ∨ k = 2 ∨ k = 3 ∨ k = 4) with rfl | rfl | rfl | rfl | rfl <;> rfl
theorem ptR_length (l : List UInt8) {k : Nat} (h : k ≤ 5) : (ptR l k).length = 5 := by unfold ptR; simp; omega
theorem stN_le {k : Nat} (h : k < 5) : stN k ≤ stN (k + 1) ∧ stN (k + 1) ≤ 16 ∧ stN k < 16 := by
  rcases (by omega : k = 0 ∨ k = 1 ∨ k = 2 ∨ k = 3 ∨ k = 4) with rfl | rfl | rfl | rfl | rfl <;> decide
def enA : Array Value := #[.int .i64 4, .int .i64 6, .int .i64 8, .int .i64 10, .int .i64 16]
theorem enA_get {k : Nat} (h : k < 5) : enA[k]? = some (.int .i64 ((stN (k + 1) : Nat) : Int)) := by
  rcases (by omega : k = 0 ∨ k = 1 ∨ k = 2 ∨ k = 3 ∨ k = 4) with rfl | rfl | rfl | rfl | rfl <;> rfl
theorem idL_join (l : List UInt8) (hl : l.length = 16) : Lib.join ([ptS l 0, ptS l 1, ptS l 2, ptS l 3, ptS l 4].map (·.data.toList)) [45] = idL l := by
  have h4 : ptL l 4 = l.drop 10 := by
    show (l.drop 10).take 6 = _
    exact List.take_of_length_le (by rw [List.length_drop, hl]; omega)
  have e : ∀ k, (ptS l k).data.toList = hexL (ptL l k) := fun k => rfl
  simp only [List.map_cons, List.map_nil, e, h4]
  unfold idL
  simp [Lib.join, ptL, stN]

set_option maxRecDepth 20000 in
set_option maxHeartbeats 4000000 in
theorem idText_any (l : List UInt8) (hl : l.length = 16) (w : World) :
    Calls Tryz.prog 41 #[.agg (l.map bv).toArray] w fun e w' => e = .returned (.string ⟨(idL l).toArray⟩) ∧ Below w.heap.size w w' := by
  obtain ⟨C, hC⟩ : ∃ C, l.map bv = C := ⟨_, rfl⟩
  rw [hC]
  have hr0 := (Row.new w 45 C).alloc (.cells (ptR l 0).toArray 79)
  have hr1 := Row.new (w.alloc (.cells C.toArray 45)) 79 (ptR l 0)
  rw [World.size_alloc] at hr1
  have hb0 : Below w.heap.size w ((w.alloc (.cells C.toArray 45)).alloc (.cells (ptR l 0).toArray 79)) := ((Below.refl _ _).alloc (Nat.le_refl _) _).alloc (by simp) _
  have H0 := Lib.hid (And.intro hr0 (And.intro hr1 hb0))
  have HC := Lib.hid hC
  clear hC hr0 hr1 hb0
  go_enter Tryz.func41, Tryz.ntmps41
  go_wp2_with fail
  obtain ⟨hr0, hr1, hb0⟩ := H0.out
  have ez : (ptR l 0).toArray = #[.string ⟨#[]⟩, .string ⟨#[]⟩, .string ⟨#[]⟩, .string ⟨#[]⟩, .string ⟨#[]⟩] := rfl
  rw [ez] at hr0 hr1 hb0
  generalize (w.alloc (.cells C.toArray 45)).alloc (.cells #[.string ⟨#[]⟩, .string ⟨#[]⟩, .string ⟨#[]⟩, .string ⟨#[]⟩, .string ⟨#[]⟩] 79) = w1 at hr0 hr1 hb0 ⊢
  clear H0 ez
  go_loopw [4, 8] (fun st i wr => ∃ k : Nat, k ≤ 5 ∧ i = .int .i64 k ∧ st = .int .i64 (stN k : Nat) ∧ Row wr w.heap.size 45 C ∧ Row wr (w.heap.size + 1) 79 (ptR l k) ∧ Below w.heap.size w wr) (fun _ i _ => 5 - (intOf i).toNat)
  case atStart => exact ⟨0, Nat.zero_le _, rfl, rfl, hr0, hr1, hb0⟩
  case round =>
    obtain ⟨k, hk, rfl, rfl, h0, h1, hb⟩ := hrel
    clear hr0 hr1 hb0
    by_cases hlt : k < 5
    · have hix := fun W' => run_index_agg (P := Tryz.prog) 80 3 5 enA k _ Tryz.underlying80 hlt (enA_get hlt) W' (Tryz.sizeOf3 W') (Tryz.isAgg3 W')
      unfold enA at hix
      obtain ⟨hs1, hs2, hs3⟩ := stN_le hlt
      have hE : Hid (∀ W : World, Calls Tryz.prog 60 #[alph hexS 4 false, .string ⟨(ptL l k).toArray⟩] W fun e w' => e = .returned (.string (ptS l k)) ∧ Below W.heap.size W w') := Lib.hid fun W => by
        have h := Encode_S hexS 4 false ⟨(ptL l k).toArray⟩ W (.inl rfl) rfl (by show (ptL l k).toArray.size ≤ _; rw [List.size_toArray]; unfold ptL; rw [List.length_take, List.length_drop]; omega)
        rwa [encS_hex] at h
      obtain ⟨a, ha⟩ : ∃ a, stN k = a := ⟨_, rfl⟩
      obtain ⟨b, hbn⟩ : ∃ b, stN (k + 1) = b := ⟨_, rfl⟩
      have hpl : ptL l k = (l.drop a).take (b - a) := by unfold ptL; rw [ha, hbn]
      rw [ha] at hs1 hs3
      rw [hbn] at hs1 hs2 hix
      have hsl := fun W => slice_arr_lh (P := Tryz.prog) 45 5 16 Tryz.underlying45 Tryz.sizeOf5 w.heap.size 0 a b hs1 hs2 hs3 W
      have hcv : ∀ W, Below wr.heap.size wr W → (convert 76 9 (.slice (some ⟨w.heap.size, a, none⟩) (b - a) (16 - a))).run Tryz.prog W = .ok (.string ⟨(ptL l k).toArray⟩) W := fun W hW =>
        conv_bytes (P := Tryz.prog) W 76 9 5 Tryz.underlying76 Tryz.underlying5 Tryz.underlying9 w.heap.size a (b - a) (16 - a) (ptL l k) (by rw [hpl, List.length_take, List.length_drop, hl]; omega) (fun i hi => by
          rw [(h0.below hW h0.lt).cell, ← HC.out, hpl, List.getElem?_map, List.getElem?_map, List.getElem?_take_of_lt hi, List.getElem?_drop])
      have HR := Lib.hid (And.intro h0 (And.intro h1 (And.intro hb (And.intro ha (And.intro hbn hcv)))))
      have hgl := h1.lt
      rw [ha]
      clear h0 h1 hb ha hbn hpl
      go_wp2_with fail
      refine region_tail 8 (Below wr.heap.size wr) (by kernel_rfl) (by kernel_rfl) rfl (below_drewN (Below.refl _ _) 1) ?_
      simp only [List.take_succ_cons, List.take_zero]
      repeat (go_big_quiet_step ((first
        | (intro hC; with_reducible rfl)
        | (intro hC; rw [hcv _ hC]; exact ⟨rfl, rfl⟩)
        | (intro hC; go_at_call 52; refine (Hex_any _).mono ?_; rintro e w'' ⟨rfl, hb⟩; exact ⟨rfl, hC.trans (hb.mono hC.size)⟩)
        | (intro hC; go_at_call 60; refine (hE.out _).mono ?_; rintro e w'' ⟨rfl, hb⟩; exact ⟨rfl, hC.trans (hb.mono hC.size)⟩))))
      refine wpQuiet_nil ?_
      intro w7 hw7
      have h0 := (HR.out.1.below hw7 HR.out.1.lt).far (p := ⟨w.heap.size + 1, k, none⟩) (by show w.heap.size ≠ w.heap.size + 1; omega) (.string (ptS l k))
      have h1 := (HR.out.2.1.below hw7 HR.out.2.1.lt).set k (.string (ptS l k))
      rw [ptR_set l hlt] at h1
      have hb := (HR.out.2.2.1.trans (hw7.mono HR.out.2.2.1.size)).setCell (p := ⟨w.heap.size + 1, k, none⟩) (by show w.heap.size ≤ w.heap.size + 1; omega) (.string (ptS l k))
      have hf0 := (HR.out.2.1.below hw7 HR.out.2.1.lt).frozen k
      obtain ⟨v0, hc0⟩ : ∃ v, w7.cell? ⟨w.heap.size + 1, k, none⟩ = some v := by
        rw [(HR.out.2.1.below hw7 HR.out.2.1.lt).cell]; exact ⟨_, List.getElem?_eq_getElem (by rw [ptR_length l hk]; exact hlt)⟩
      have HV := Lib.hid (And.intro h0 (And.intro h1 hb))
      clear h0 h1 hb hcv hsl hix hw7
      go_wp2
      go_roundw
      case rel => exact ⟨k + 1, by omega, by go_num, by rw [HR.out.2.2.2.2.1], HV.out.1, HV.out.2.1, HV.out.2.2⟩
      case measure => simp [intOf]; omega
    · have hk5 : k = 5 := by omega
      rw [hk5] at h1
      have hge : 5 ≤ k := by omega
      have hsl := fun W => slice_arr_all (P := Tryz.prog) 79 9 5 Tryz.underlying79 Tryz.sizeOf9 (w.heap.size + 1) 0 (by omega) W
      have hJ : Hid (∀ W : World, Row W (w.heap.size + 1) 79 (ptR l 5) → Calls Tryz.prog 70 #[.slice (some ⟨w.heap.size + 1, 0, none⟩) 5 5, .string ⟨#[45]⟩] W fun e w' => e = .returned (.string ⟨(idL l).toArray⟩) ∧ Below W.heap.size W w') := Lib.hid fun W hW => by
        have e := idL_join l hl
        have h := Tryz.strings_Join (w.heap.size + 1) 0 5 [ptS l 0, ptS l 1, ptS l 2, ptS l 3, ptS l 4] ⟨#[45]⟩ W (fun j x hx => by
          rw [Nat.zero_add, hW.cell]
          match j, hx with
          | 0, hx => cases hx; rfl
          | 1, hx => cases hx; rfl
          | 2, hx => cases hx; rfl
          | 3, hx => cases hx; rfl
          | 4, hx => cases hx; rfl) hW.lt (by simp) (by simp) (by show (Lib.join _ [45]).length ≤ _; rw [e, idL_length l hl]; omega)
        rw [show (ByteArray.mk #[45]).data.toList = [45] from rfl, e] at h
        exact h
      have HH := Lib.hid (And.intro h1 hb)
      clear h0 h1 hb hk5 hlt hk
      go_wp2_with (go_at_call 70; refine (hJ.out _ HH.out.1).mono ?_; rintro e w2 ⟨rfl, hb2⟩)
      go_ret
      exact ⟨rfl, HH.out.2.trans (hb2.mono HH.out.2.size)⟩
end Go.Proofs.YtcecibopanfmgaaGreatDoor
