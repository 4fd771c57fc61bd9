/- The contract of a version's Text. -/
import Derived.Test.YtldjnegoefdadaaGreatDoorVCmp
import Derived.Test.YtldjnegoefdadaaGreatDoorVPlain
import Derived.Test.YtldjnegoefdadaaGreatDoorNText
import Derived.Test.YtldjnegoefdadaaGreatDoorShelf
namespace Go.Proofs.YtldjnegoefdadaaGreatDoor
open Go.RowKit
set_option linter.unusedVariables false

theorem textL_zero (u : Nat) : textL u 0 = Lib.decDigits u := by
  have h := Lib.nDigits_pos u
  unfold textL textW
  rw [show min (max 0 (Lib.nDigits u)) 40 - Lib.nDigits u = 0 by omega]
  rfl
/-- The cells of the parts, the first k of them laid. -/
def partL (d0 d1 d2 : ByteArray) : Nat → List Value
  | 0 => [.string ByteArray.empty, .string ByteArray.empty, .string ByteArray.empty]
  | 1 => [.string d0, .string ByteArray.empty, .string ByteArray.empty]
  | 2 => [.string d0, .string d1, .string ByteArray.empty]
  | _ => [.string d0, .string d1, .string d2]
theorem join_verL (a b c : Nat) : Lib.join [Lib.decDigits a, Lib.decDigits b, Lib.decDigits c] [46] = verL a b c := by
  unfold verL Lib.join
  simp
theorem Text3 (n : Nat) (h : n ≤ 65535) (d : ByteArray) (hd : (⟨(Lib.decDigits n).toArray⟩ : ByteArray) = d) (W : World) (hT : T10 W) :
    Calls Tryz.prog 110 #[.int .u64 n, .int .i64 0] W fun e w' => e = .returned (.string d) ∧ Below W.heap.size W w' := by
  have h := Text_dig n 0 (by omega) (by omega) W hT
  rw [textL_zero, hd] at h
  exact h
theorem Join3 (bk : Nat) (t : TypeId) (a b c : Nat) (ha : a ≤ 65535) (hb : b ≤ 65535) (hc : c ≤ 65535) (d0 d1 d2 : ByteArray) (h0 : (⟨(Lib.decDigits a).toArray⟩ : ByteArray) = d0) (h1 : (⟨(Lib.decDigits b).toArray⟩ : ByteArray) = d1)
    (h2 : (⟨(Lib.decDigits c).toArray⟩ : ByteArray) = d2) (v : ByteArray) (hv : (⟨(verL a b c).toArray⟩ : ByteArray) = v) (W : World) (hR : Row W bk t [.string d0, .string d1, .string d2]) :
    Calls Tryz.prog 111 #[.slice (some ⟨bk, 0, none⟩) 3 3, .string ⟨#[46]⟩] W fun e w' => e = .returned (.string v) ∧ Below W.heap.size W w' := by
  have h := Tryz.strings_Join bk 0 3 [d0, d1, d2] ⟨#[46]⟩ W (fun j x hx => by
    rw [Nat.zero_add, hR.cell j]
    match j, hx with
    | 0, hx => simp at hx; simp [hx]
    | 1, hx => simp at hx; simp [hx]
    | 2, hx => simp at hx; simp [hx]) hR.lt (by simp) (by simp) (by
      have l1 := Lib.nDigits_le20 a (by omega)
      have l2 := Lib.nDigits_le20 b (by omega)
      have l3 := Lib.nDigits_le20 c (by omega)
      rw [← h0, ← h1, ← h2]
      simp only [List.map_cons, List.map_nil]
      rw [join_verL]
      unfold verL
      simp [Lib.decDigits_length]
      omega)
  have e : Lib.join ([d0, d1, d2].map (·.data.toList)) (ByteArray.mk #[46]).data.toList = verL a b c := by
    rw [← h0, ← h1, ← h2]
    exact join_verL a b c
  rw [e, hv] at h
  exact h

theorem idx3 (a b c : Nat) (W : World) :
    (Instr.index 130 (.agg #[.int .u16 a, .int .u16 b, .int .u16 c]) (.int .i64 0)).run Tryz.prog W = .ok (.int .u16 a) W ∧
    (Instr.index 130 (.agg #[.int .u16 a, .int .u16 b, .int .u16 c]) (.int .i64 1)).run Tryz.prog W = .ok (.int .u16 b) W ∧
    (Instr.index 130 (.agg #[.int .u16 a, .int .u16 b, .int .u16 c]) (.int .i64 2)).run Tryz.prog W = .ok (.int .u16 c) W := by
  refine ⟨?_, ?_, ?_⟩
  all_goals simp [Instr.index, run_underlying Tryz.underlying130, asIntOf, part, Tryz.sizeOf128, Tryz.isAgg128]

set_option maxRecDepth 4000 in
set_option maxHeartbeats 1000000 in
theorem VText_any (a b c : Nat) (ha : a ≤ 65535) (hb : b ≤ 65535) (hc : c ≤ 65535) (w : World) (hT : T10 w) :
    Calls Tryz.prog 96 #[vv a b c] w fun e w' => e = .returned (.string ⟨(verL a b c).toArray⟩) ∧ Below w.heap.size w w' := by
  unfold vv
  obtain ⟨d0, h0⟩ : ∃ d : ByteArray, (⟨(Lib.decDigits a).toArray⟩ : ByteArray) = d := ⟨_, rfl⟩
  obtain ⟨d1, h1⟩ : ∃ d : ByteArray, (⟨(Lib.decDigits b).toArray⟩ : ByteArray) = d := ⟨_, rfl⟩
  obtain ⟨d2, h2⟩ : ∃ d : ByteArray, (⟨(Lib.decDigits c).toArray⟩ : ByteArray) = d := ⟨_, rfl⟩
  obtain ⟨v, hv⟩ : ∃ d : ByteArray, (⟨(verL a b c).toArray⟩ : ByteArray) = d := ⟨_, rfl⟩
  have C0 := Lib.hid (fun W h => Text3 a ha d0 h0 W h)
  have C1 := Lib.hid (fun W h => Text3 b hb d1 h1 W h)
  have C2 := Lib.hid (fun W h => Text3 c hc d2 h2 W h)
  have CJ := Lib.hid (fun bk t W h => Join3 bk t a b c ha hb hc d0 d1 d2 h0 h1 h2 v hv W h)
  rw [hv]
  have HT := Lib.hid hT
  clear h0 h1 h2 hv hT
  have hsl : ∀ (g : Nat) (W : World), (Instr.sliceAt 168 (.pointer (some ⟨g, 0, none⟩)) none none none).run Tryz.prog W = .ok (.slice (some ⟨g, 0, none⟩) 3 3) W := fun g W => by
    have h3 : (Tryz.prog.arrayLen 168) = 3 := by simp [Program.arrayLen, Tryz.underlying168]
    rw [run_sliceAt_array_all (P := Tryz.prog) W 168 ⟨g, 0, none⟩ (by simp [Program.arrayLen, Program.elem, Tryz.underlying168]), h3]
    simp [Program.elem, Tryz.underlying168, Tryz.sizeOf9, slicedAt, Addr.add]
  have hs1 := hsl (w.heap.size + 1)
  clear hsl
  go_enter Tryz.func96, Tryz.ntmps96
  go_wp2
  go_loopw [7] (fun i wr => ∃ k : Nat, k ≤ 3 ∧ i = .int .i64 k ∧ Below w.heap.size w wr ∧ Row wr (w.heap.size + 1) 168 (partL d0 d1 d2 k)) (fun i _ => 3 - (intOf i).toNat)
  case atStart => exact ⟨0, by omega, rfl, ((Below.refl _ _).alloc (Nat.le_refl _) _).alloc (by simp) _, (two_heap w _ _ 0).2⟩
  case round =>
    obtain ⟨k, hk, rfl, hB, hR⟩ := hrel
    have HB := Lib.hid hB
    have HR := Lib.hid hR
    have HT1 := Lib.hid (HT.out.below hB)
    have hi0 : ∀ W, _ := fun W => (idx3 a b c W).1
    have hi1 : ∀ W, _ := fun W => (idx3 a b c W).2.1
    have hi2 : ∀ W, _ := fun W => (idx3 a b c W).2.2
    clear hB hR
    rcases (by omega : k = 0 ∨ k = 1 ∨ k = 2 ∨ k = 3) with rfl | rfl | rfl | rfl
    · go_wp2_with (go_at_call 110; refine (C0.out _ HT1.out).mono ?_; rintro e w1 ⟨rfl, hb1⟩; (have HB1 := Lib.hid (HB.out.trans (hb1.mono HB.out.size))); (have HR1 := Lib.hid (HR.out.below hb1 HR.out.lt)); (have hc := HR1.out.cell 0); (have hf := HR1.out.frozen 0); clear hb1; simp only [partL, List.getElem?_cons_zero] at hc)
      exact ⟨⟨1, by omega, rfl, HB1.out.setCell (by simp) _, HR1.out.set 0 _⟩, by simp [intOf]⟩
    · go_wp2_with (go_at_call 110; refine (C1.out _ HT1.out).mono ?_; rintro e w1 ⟨rfl, hb1⟩; (have HB1 := Lib.hid (HB.out.trans (hb1.mono HB.out.size))); (have HR1 := Lib.hid (HR.out.below hb1 HR.out.lt)); (have hc := HR1.out.cell 1); (have hf := HR1.out.frozen 1); clear hb1; simp only [partL, List.getElem?_cons_zero, List.getElem?_cons_succ] at hc)
      exact ⟨⟨2, by omega, rfl, HB1.out.setCell (by simp) _, HR1.out.set 1 _⟩, by simp [intOf]⟩
    · go_wp2_with (go_at_call 110; refine (C2.out _ HT1.out).mono ?_; rintro e w1 ⟨rfl, hb1⟩; (have HB1 := Lib.hid (HB.out.trans (hb1.mono HB.out.size))); (have HR1 := Lib.hid (HR.out.below hb1 HR.out.lt)); (have hc := HR1.out.cell 2); (have hf := HR1.out.frozen 2); clear hb1; simp only [partL, List.getElem?_cons_zero, List.getElem?_cons_succ] at hc)
      exact ⟨⟨3, by omega, rfl, HB1.out.setCell (by simp) _, HR1.out.set 2 _⟩, by simp [intOf]⟩
    · go_wp2_with (go_at_call 111; refine (CJ.out _ _ _ HR.out).mono ?_; rintro e w1 ⟨rfl, hb1⟩)
      go_ret
      exact ⟨rfl, HB.out.trans (hb1.mono HB.out.size)⟩
end Go.Proofs.YtldjnegoefdadaaGreatDoor
