/- The walk of OtpTexts. -/
import Derived.Test.YtlmbijhkpgolaaaDoorOtpB
import Derived.Test.YtlmbijhkpgolaaaDoorOtpT
import Derived.Test.YtlmbijhkpgolaaaDoorOtpP
namespace Go.Proofs.YtlmbijhkpgolaaaDoor
open Go.RowKit
set_option linter.unusedVariables false
set_option linter.unusedSimpArgs false

theorem Row.onwardO {p : Nat} {w w' : World} {t : TypeId} {cs : List Value} (h : Row w p t cs) (k : Below w.heap.size w w') : Row w' p t cs := (k.block p h.lt).trans h
theorem putL1 (a : Nat) : putL a 1 = [UInt8.ofNat (a % 256)] := rfl
set_option maxRecDepth 100000 in
set_option maxHeartbeats 4000000 in
theorem otpTexts_Ri (t : Int) (d : Nat) (o : Int) (s : ByteArray) (ht : -9223372036854775808 ≤ t ∧ t ≤ 9223372036854775807) (hd : d < 18446744073709551616) (ho : -9223372036854775808 ≤ o ∧ o ≤ 9223372036854775807) (h100 : s.size ≤ 100) (w : World) (hG : G w)
    (hs : s.size = 10) (x1 y1 : Nat) (hx : ∀ h : 0 < s.size, (s[0]'h).toNat = x1) (hy : ∀ h : 1 < s.size, (s[1]'h).toNat = y1) (hb1 : x1 ≤ 9) (hb2 : y1 ≤ 4) (hin : 0 ≤ t ∧ t ≤ 9 ∧ 0 ≤ o ∧ o ≤ 4) :
    Calls Tryd.prog 3 #[.agg #[.int .i64 t, .int .u64 d, .int .i64 o], .string s] w fun e w' => e = .returned (.bool true) ∧ Below w.heap.size w w' := by
  have hmx : Tryd.prog.follows .mixedOrders = true := by kernel_rfl
  obtain ⟨a, ha⟩ : ∃ a : Nat, IntKind.wrap .u64 t = a := ⟨(t % 18446744073709551616).toNat, by rw [IntKind.wrap_u64]; omega⟩
  obtain ⟨b, hb⟩ : ∃ a : Nat, IntKind.wrap .u64 o = a := ⟨(o % 18446744073709551616).toNat, by rw [IntKind.wrap_u64]; omega⟩
  have ha' := ha
  have hb' := hb
  rw [IntKind.wrap_u64] at ha' hb'
  obtain ⟨x, hxa⟩ : ∃ x : Nat, a % 256 = x := ⟨_, rfl⟩
  obtain ⟨y, hyb⟩ : ∃ x : Nat, b % 256 = x := ⟨_, rfl⟩
  have HWx : Hid (IntKind.wrap .u8 t = (x : Int)) := Lib.hid (by rw [IntKind.wrap_u8]; omega)
  have HWy : Hid (IntKind.wrap .u8 o = (y : Int)) := Lib.hid (by rw [IntKind.wrap_u8]; omega)
  obtain ⟨U, hU⟩ : ∃ U : ByteArray, (⟨(putL a 1 ++ putL b 1 ++ putL d 8).toArray⟩ : ByteArray) = U := ⟨_, rfl⟩
  obtain ⟨D, hD⟩ : ∃ U : ByteArray, (⟨(putL d 8).toArray⟩ : ByteArray) = U := ⟨_, rfl⟩
  obtain ⟨XY, hXY⟩ : ∃ U : ByteArray, (⟨(putL a 1 ++ putL b 1).toArray⟩ : ByteArray) = U := ⟨_, rfl⟩
  have hUsz : U.size = 10 := by rw [← hU, mkSz, List.length_append, List.length_append, putL_length, putL_length, putL_length]
  have hU0 : ∀ h : 0 < U.size, (U[0]'h).toNat = x := fun h => by subst hU; show (UInt8.ofNat (a % 256)).toNat = x; rw [UInt8.toNat_ofNat']; omega
  have hU1 : ∀ h : 1 < U.size, (U[1]'h).toNat = y := fun h => by subst hU; show (UInt8.ofNat (b % 256)).toNat = y; rw [UInt8.toNat_ofNat']; omega
  have hUd : getL (U.data.toList.drop 2) = d := by
    rw [← hU]
    show getL (((putL a 1 ++ putL b 1) ++ putL d 8).drop 2) = d
    rw [List.drop_append_of_le_length (by simp [putL_length]), List.drop_of_length_le (by simp [putL_length]), List.nil_append, getL_putL, Nat.mod_eq_of_lt (by omega)]
  have HT : Hid (∀ W, Calls Tryd.prog 8 #[.agg #[.int .i64 t, .int .u64 d, .int .i64 o]] W fun e w' => e = .returned (.string U) ∧ Below W.heap.size W w') := Lib.hid fun W => by
    rw [← hU]; exact text_any t o d a b ha hb (by omega) (by omega) hd W
  have HD : Hid (∀ W, Calls Tryd.prog 9 #[.int .u64 d, .int .i64 8] W fun e w' => e = .returned (.string D) ∧ Below W.heap.size W w') := Lib.hid fun W => by rw [← hD]; exact refPut_any d 8 W hd (by omega) (by omega)
  have HXY : Hid (∀ (W : World) (g : Nat), Row W g 5 [.int .u8 x, .int .u8 y] → (convert 30 9 (.slice (some ⟨g, 0, none⟩) 2 2)).run Tryd.prog W = .ok (.string XY) W) := Lib.hid fun W g h => by
    rw [← hXY]
    refine conv_bytes W _ _ 5 Tryd.underlying30 Tryd.underlying5 Tryd.underlying9 g 0 2 2 (putL a 1 ++ putL b 1) rfl fun i hi => ?_
    rw [Nat.zero_add, h.cell i]
    have e1 : (UInt8.ofNat (a % 256)).toNat = x := by rw [UInt8.toNat_ofNat']; omega
    have e2 : (UInt8.ofNat (b % 256)).toNat = y := by rw [UInt8.toNat_ofNat']; omega
    simp only [putL1, List.cons_append, List.nil_append, List.map_cons, List.map_nil, bv, e1, e2]
  have ad1 : ∀ W : World, (Op.stringOp .add XY D).run Tryd.prog W = .ok (.string U) W := fun W => by
    have h := run_string_add_sum W XY D (P := Tryd.prog) (by rw [← hXY, ← hD]; simp [mkSz, putL_length])
    rw [h, ← hU, ← hXY, ← hD, mkCat]
  have HPU : Hid (∀ W, Calls Tryd.prog 7 #[.string U] W fun e w' => e = .returned (.tuple #[.agg #[.int .i64 t, .int .u64 d, .int .i64 o], .int .i64 0]) ∧ Below W.heap.size W w') := Lib.hid fun W => by
    have h := parse_ok U hUsz x y hU0 hU1 (by omega) (by omega) W
    rw [hUd, show (x : Int) = t by omega, show (y : Int) = o by omega] at h
    exact h
  obtain ⟨d1, hd1⟩ : ∃ d1 : Nat, getL (s.data.toList.drop 2) = d1 := ⟨_, rfl⟩
  have HPs : Hid (∀ W, Calls Tryd.prog 7 #[.string s] W fun e w' => e = .returned (.tuple #[.agg #[.int .i64 x1, .int .u64 d1, .int .i64 y1], .int .i64 0]) ∧ Below W.heap.size W w') := Lib.hid fun W => by
    have h := parse_ok s hs x1 y1 hx hy hb1 hb2 W
    rw [hd1] at h
    exact h
  have HTX : Hid (∀ W, Calls Tryd.prog 8 #[.agg #[.int .i64 x1, .int .u64 d1, .int .i64 y1]] W fun e w' => e = .returned (.string s) ∧ Below W.heap.size W w') := Lib.hid fun W => by
    have hl : s.data.toList.length = 10 := by rw [← hs]; simp
    have hd8 : (s.data.toList.drop 2).length = 8 := by rw [List.length_drop]; omega
    have h64 := getL_lt8 (s.data.toList.drop 2) (by omega)
    have h := text_any x1 y1 d1 x1 y1 (by rw [IntKind.wrap_u64]; omega) (by rw [IntKind.wrap_u64]; omega) (by omega) (by omega) (by omega) W
    have e : (⟨(putL x1 1 ++ putL y1 1 ++ putL d1 8).toArray⟩ : ByteArray) = s := by
      apply ByteArray.ext
      apply Array.ext'
      show putL x1 1 ++ putL y1 1 ++ putL d1 8 = s.data.toList
      have h8 : putL d1 8 = s.data.toList.drop 2 := by rw [← hd1, ← hd8, putL_getL]
      have q0 := hx (by omega)
      have q1 := hy (by omega)
      rw [h8]
      have hsplit : s.data.toList = [s[0]'(by omega), s[1]'(by omega)] ++ s.data.toList.drop 2 := by
        have h2 := (List.take_append_drop 2 s.data.toList).symm
        have ht2 : s.data.toList.take 2 = [s[0]'(by omega), s[1]'(by omega)] := by
          apply List.ext_getElem
          · simp [hl]
          · intro i h1 h2
            have hi : i < 2 := by simpa using h2
            rw [List.getElem_take]
            match i, hi with
            | 0, _ => rfl
            | 1, _ => rfl
        rw [ht2] at h2
        exact h2
      rw [hsplit]
      have e0 : UInt8.ofNat (x1 % 256) = s[0]'(by omega) := by apply UInt8.toNat_inj.1; rw [UInt8.toNat_ofNat', q0]; omega
      have e1 : UInt8.ofNat (y1 % 256) = s[1]'(by omega) := by apply UInt8.toNat_inj.1; rw [UInt8.toNat_ofNat', q1]; omega
      rw [putL1, putL1, e0, e1]
      rfl
    rw [e] at h
    exact h
  have hnn : (s.toList == s.toList) = true := by simp
  have h0s : 0 < s.size := by omega
  have h1s : 1 < s.size := by omega
  have g0 := hx h0s
  have g1 := hy h1s
  have h1I : (1 : Int) < (s.size : Int) := by omega
  have hz10 : ((s.size : Int) == 10) = true := by rw [beq_iff_eq]; omega
  have hb1I : (x1 : Int) ≤ 9 := by omega
  have hb2I : (y1 : Int) ≤ 4 := by omega
  have i1 : ¬ t < 0 := by omega
  have i2 : ¬ 9 < t := by omega
  have i3 : ¬ o < 0 := by omega
  have i4 : ¬ 4 < o := by omega
  have hqq := fun W => st_self t d o W
  have h100I : ¬ (100 : Int) < (s.size : Int) := by omega
  have HA : Hid (∀ W, Below w.heap.size w W → Calls Tryd.prog 6 #[] W fun e w' => e = .returned (.bool true) ∧ Below W.heap.size W w') := Lib.hid fun W h => awake21_any W (hG.below h)
  have HB0 := Lib.hid ((Below.refl w.heap.size w).alloc (Nat.le_refl _) (.cells #[.int .i64 t, .int .u64 d, .int .i64 o] 24))
  have HR0 := Lib.hid (Row.new w 24 [.int .i64 t, .int .u64 d, .int .i64 o])
  have hz0 : w.heap.size ≤ (w.alloc (.cells #[.int .i64 t, .int .u64 d, .int .i64 o] 24)).heap.size := HB0.out.size
  clear ha hb ha' hb' hxa hyb hU hD hXY hUsz hU0 hU1 hUd hs h100 hd hG hx hy hd1 hb1 hb2
  go_enter Tryd.func3, Tryd.ntmps3
  go_wp2_with fail
  generalize w.alloc (.cells #[.int .i64 t, .int .u64 d, .int .i64 o] 24) = w0 at HB0 HR0 hz0 ⊢
  have hgP0 : w.heap.size < w0.heap.size := HR0.out.lt
  refine (HA.out _ HB0.out).mono ?_
  rintro e yw1 ⟨rfl, hb1⟩
  have B1 := Lib.hid (HB0.out.trans (hb1.mono hz0))
  have hz1 : w.heap.size ≤ yw1.heap.size := B1.out.size
  have RP1 : Hid (Row yw1 w.heap.size 24 [.int .i64 t, .int .u64 d, .int .i64 o]) := Lib.hid (HR0.out.below hb1 hgP0)
  have hgP1 : w.heap.size < yw1.heap.size := RP1.out.lt
  clear hb1
  go_wp2_with fail
  refine (HPs.out _).mono ?_
  rintro e yw2 ⟨rfl, hb2⟩
  have B2 := Lib.hid (B1.out.trans (hb2.mono hz1))
  have hz2 : w.heap.size ≤ yw2.heap.size := B2.out.size
  have RP2 : Hid (Row yw2 w.heap.size 24 [.int .i64 t, .int .u64 d, .int .i64 o]) := Lib.hid (RP1.out.below hb2 hgP1)
  have hgP2 : w.heap.size < yw2.heap.size := RP2.out.lt
  clear hb2
  have cP2_0 := RP2.out.cell 0
  have cP2_1 := RP2.out.cell 1
  have cP2_2 := RP2.out.cell 2
  simp only [List.getElem?_cons_zero, List.getElem?_cons_succ] at cP2_0 cP2_1 cP2_2
  go_wp2_with fail
  refine (HTX.out _).mono ?_
  rintro e yw3 ⟨rfl, hb3⟩
  have B3 := Lib.hid ((B2.out.alloc hz2 _).trans (hb3.mono (by simp; omega)))
  have hz3 : w.heap.size ≤ yw3.heap.size := B3.out.size
  have RP3 : Hid (Row yw3 w.heap.size 24 [.int .i64 t, .int .u64 d, .int .i64 o]) := Lib.hid ((RP2.out.alloc _).below hb3 (by simp; omega))
  have hgP3 : w.heap.size < yw3.heap.size := RP3.out.lt
  have RX3 : Hid (Row yw3 yw2.heap.size 24 [.int .i64 x1, .int .u64 d1, .int .i64 y1]) := Lib.hid ((Row.new yw2 24 [.int .i64 x1, .int .u64 d1, .int .i64 y1]).below hb3 (by simp))
  have hgX3 : yw2.heap.size < yw3.heap.size := RX3.out.lt
  clear hb3
  have cP3_0 := RP3.out.cell 0
  have cP3_1 := RP3.out.cell 1
  have cP3_2 := RP3.out.cell 2
  simp only [List.getElem?_cons_zero, List.getElem?_cons_succ] at cP3_0 cP3_1 cP3_2
  go_wp2_with fail
  refine (HT.out _).mono ?_
  rintro e yw4 ⟨rfl, hb4⟩
  have B4 := Lib.hid (B3.out.trans (hb4.mono hz3))
  have hz4 : w.heap.size ≤ yw4.heap.size := B4.out.size
  have RP4 : Hid (Row yw4 w.heap.size 24 [.int .i64 t, .int .u64 d, .int .i64 o]) := Lib.hid (RP3.out.below hb4 hgP3)
  have hgP4 : w.heap.size < yw4.heap.size := RP4.out.lt
  have RX4 : Hid (Row yw4 yw2.heap.size 24 [.int .i64 x1, .int .u64 d1, .int .i64 y1]) := Lib.hid (RX3.out.below hb4 hgX3)
  have hgX4 : yw2.heap.size < yw4.heap.size := RX4.out.lt
  clear hb4
  go_wp2_with fail
  have HRow : Hid (∀ W, Below yw4.heap.size yw4 W → Row W w.heap.size 24 [.int .i64 t, .int .u64 d, .int .i64 o]) := Lib.hid fun W h => RP4.out.below h RP4.out.lt
  refine wp_region_slotsB (m := 14) [] hmx (fun i v W => (i = 7 → (fun v W => ∃ g, v = .slice (some ⟨g, 0, none⟩) 2 2 ∧ Row W g 5 [.int .u8 x, .int .u8 y]) v W) ∧ (i ≠ 7 → v = ([.string U, .pointer (some ⟨w.heap.size, 0, none⟩), .int .i64 t, .int .u8 x, .pointer (some ⟨w.heap.size, 2, none⟩), .int .i64 o, .int .u8 y, undef, .string XY, .pointer (some ⟨w.heap.size, 1, none⟩), .int .u64 d, .string D, .string U, .bool false] : List Value).getD i undef)) (Below yw4.heap.size yw4) (by kernel_rfl) (by kernel_rfl) (fun i v W W' h hb => ⟨fun e => by obtain ⟨g, h1, h2⟩ := h.1 e; exact ⟨g, h1, h2.onwardO hb⟩, h.2⟩) ((Below.refl _ _).drew) ?_ ?_
  · refine ⟨?_, ?_, ?_, ?_, ?_, ?_, ?_, ?_, ?_, ?_, ?_, ?_, ?_, ?_, trivial⟩
    · intro ρ vals W hC hd ht hk hg hf
      have e8 := ht 8
      rw [evalS_old (by kernel_rfl)] at e8
      clear ht hd
      unfold StepOK
      go_simp
      exact Below.refl _ _
    · intro ρ vals W hC hd ht hk hg hf
      have e2 := ht 2
      rw [evalS_old (by kernel_rfl)] at e2
      clear ht hd
      unfold StepOK
      go_simp
      exact Below.refl _ _
    · intro ρ vals W hC hd ht hk hg hf
      have d1 := (hd 1 (by kernel_rfl)).2 (by decide)
      have e63 := ht 63
      rw [evalS_tmp (i := 1) (by kernel_rfl), d1] at e63
      clear ht hd d1
      have q := (HRow.out W hC).cell 0
      simp only [List.getElem?_cons_zero, List.getElem?_cons_succ] at q
      unfold StepOK
      go_simp
      exact Below.refl _ _
    · intro ρ vals W hC hd ht hk hg hf
      have d2 := (hd 2 (by kernel_rfl)).2 (by decide)
      have e64 := ht 64
      rw [evalS_tmp (i := 2) (by kernel_rfl), d2] at e64
      clear ht hd d2
      have g := HWx.out
      unfold StepOK
      go_simp
      exact Below.refl _ _
    · intro ρ vals W hC hd ht hk hg hf
      have e2 := ht 2
      rw [evalS_old (by kernel_rfl)] at e2
      clear ht hd
      unfold StepOK
      go_simp
      exact Below.refl _ _
    · intro ρ vals W hC hd ht hk hg hf
      have d4 := (hd 4 (by kernel_rfl)).2 (by decide)
      have e66 := ht 66
      rw [evalS_tmp (i := 4) (by kernel_rfl), d4] at e66
      clear ht hd d4
      have q := (HRow.out W hC).cell 2
      simp only [List.getElem?_cons_zero, List.getElem?_cons_succ] at q
      unfold StepOK
      go_simp
      exact Below.refl _ _
    · intro ρ vals W hC hd ht hk hg hf
      have d5 := (hd 5 (by kernel_rfl)).2 (by decide)
      have e67 := ht 67
      rw [evalS_tmp (i := 5) (by kernel_rfl), d5] at e67
      clear ht hd d5
      have g := HWy.out
      unfold StepOK
      go_simp
      exact Below.refl _ _
    · intro ρ vals W hC hd ht hk hg hf
      have d3 := (hd 3 (by kernel_rfl)).2 (by decide)
      have e65 := ht 65
      rw [evalS_tmp (i := 3) (by kernel_rfl), d3] at e65
      have d6 := (hd 6 (by kernel_rfl)).2 (by decide)
      have e68 := ht 68
      rw [evalS_tmp (i := 6) (by kernel_rfl), d6] at e68
      clear ht hd d3 d6
      unfold StepOK
      go_simp
      exact ⟨Row.new W 5 [.int .u8 x, .int .u8 y], hC.alloc hC.size _, (Below.refl _ _).alloc (Nat.le_refl _) _⟩
    · intro ρ vals W hC hd ht hk hg hf
      obtain ⟨g7, d7, row7⟩ := (hd 7 (by kernel_rfl)).1 rfl
      have e69 := ht 69
      rw [evalS_tmp (i := 7) (by kernel_rfl), d7] at e69
      clear ht hd d7
      have g := HXY.out W g7 row7
      unfold StepOK
      go_simp
      exact Below.refl _ _
    · intro ρ vals W hC hd ht hk hg hf
      have e2 := ht 2
      rw [evalS_old (by kernel_rfl)] at e2
      clear ht hd
      unfold StepOK
      go_simp
      exact Below.refl _ _
    · intro ρ vals W hC hd ht hk hg hf
      have d9 := (hd 9 (by kernel_rfl)).2 (by decide)
      have e71 := ht 71
      rw [evalS_tmp (i := 9) (by kernel_rfl), d9] at e71
      clear ht hd d9
      have q := (HRow.out W hC).cell 1
      simp only [List.getElem?_cons_zero, List.getElem?_cons_succ] at q
      unfold StepOK
      go_simp
      exact Below.refl _ _
    · intro ρ vals W hC hd ht hk hg hf
      have d10 := (hd 10 (by kernel_rfl)).2 (by decide)
      have e72 := ht 72
      rw [evalS_tmp (i := 10) (by kernel_rfl), d10] at e72
      clear ht hd d10
      unfold StepOK
      go_simp
      refine (HD.out W).mono ?_
      rintro e w' ⟨rfl, hb⟩
      exact ⟨_, rfl, rfl, hC.trans (hb.mono hC.size), hb⟩
    · intro ρ vals W hC hd ht hk hg hf
      have d8 := (hd 8 (by kernel_rfl)).2 (by decide)
      have e70 := ht 70
      rw [evalS_tmp (i := 8) (by kernel_rfl), d8] at e70
      have d11 := (hd 11 (by kernel_rfl)).2 (by decide)
      have e73 := ht 73
      rw [evalS_tmp (i := 11) (by kernel_rfl), d11] at e73
      clear ht hd d8 d11
      unfold StepOK
      go_simp
      exact Below.refl _ _
    · intro ρ vals W hC hd ht hk hg hf
      have d0 := (hd 0 (by kernel_rfl)).2 (by decide)
      have e62 := ht 62
      rw [evalS_tmp (i := 0) (by kernel_rfl), d0] at e62
      have d12 := (hd 12 (by kernel_rfl)).2 (by decide)
      have e74 := ht 74
      rw [evalS_tmp (i := 12) (by kernel_rfl), d12] at e74
      clear ht hd d0 d12
      unfold StepOK
      go_simp
      exact Below.refl _ _
  · intro vals W hC hR
    have r0 : vals 0 = .string U := (hR 0 (by omega)).2 (by decide)
    have r1 : vals 1 = .pointer (some ⟨w.heap.size, 0, none⟩) := (hR 1 (by omega)).2 (by decide)
    have r2 : vals 2 = .int .i64 t := (hR 2 (by omega)).2 (by decide)
    have r3 : vals 3 = .int .u8 x := (hR 3 (by omega)).2 (by decide)
    have r4 : vals 4 = .pointer (some ⟨w.heap.size, 2, none⟩) := (hR 4 (by omega)).2 (by decide)
    have r5 : vals 5 = .int .i64 o := (hR 5 (by omega)).2 (by decide)
    have r6 : vals 6 = .int .u8 y := (hR 6 (by omega)).2 (by decide)
    obtain ⟨g7, r7, row7⟩ := (hR 7 (by omega)).1 rfl
    have r8 : vals 8 = .string XY := (hR 8 (by omega)).2 (by decide)
    have r9 : vals 9 = .pointer (some ⟨w.heap.size, 1, none⟩) := (hR 9 (by omega)).2 (by decide)
    have r10 : vals 10 = .int .u64 d := (hR 10 (by omega)).2 (by decide)
    have r11 : vals 11 = .string D := (hR 11 (by omega)).2 (by decide)
    have r12 : vals 12 = .string U := (hR 12 (by omega)).2 (by decide)
    have r13 : vals 13 = .bool false := (hR 13 (by omega)).2 (by decide)
    clear hR
    simp only [wpOps, List.take, putsS, Act.put, List.setIfInBounds_toArray, List.set_cons_zero, List.set_cons_succ, Nat.reduceAdd, r0, r1, r2, r3, r4, r5, r6, r7, r8, r9, r10, r11, r12, r13]
    clear r0 r1 r2 r3 r4 r5 r6 r7 r8 r9 r10 r11 r12 r13
    have BW := Lib.hid (B4.out.trans (hC.mono hz4))
    have RW := Lib.hid (HRow.out W hC)
    have hzW : w.heap.size ≤ W.heap.size := BW.out.size
    have hgW : w.heap.size < W.heap.size := RW.out.lt
    go_wp2_with fail
    refine (HPU.out _).mono ?_
    rintro e v1 ⟨rfl, hv1⟩
    have BV := Lib.hid (BW.out.trans (hv1.mono hzW))
    have RV := RW.out.below hv1 hgW
    have p0 := RV.cell 0
    have p1 := RV.cell 1
    have p2 := RV.cell 2
    simp only [List.getElem?_cons_zero, List.getElem?_cons_succ] at p0 p1 p2
    have hgV : w.heap.size < v1.heap.size := RV.lt
    have hzV : w.heap.size ≤ v1.heap.size := BV.out.size
    clear hv1 RV
    go_wp2_with fail
    go_ret
    exact ⟨rfl, BV.out.alloc hzV _⟩


set_option maxRecDepth 100000 in
set_option maxHeartbeats 4000000 in
theorem otpTexts_Ro (t : Int) (d : Nat) (o : Int) (s : ByteArray) (ht : -9223372036854775808 ≤ t ∧ t ≤ 9223372036854775807) (hd : d < 18446744073709551616) (ho : -9223372036854775808 ≤ o ∧ o ≤ 9223372036854775807) (h100 : s.size ≤ 100) (w : World) (hG : G w)
    (hs : s.size = 10) (x1 y1 : Nat) (hx : ∀ h : 0 < s.size, (s[0]'h).toNat = x1) (hy : ∀ h : 1 < s.size, (s[1]'h).toNat = y1) (hb1 : x1 ≤ 9) (hb2 : y1 ≤ 4) (hin : ¬ (0 ≤ t ∧ t ≤ 9 ∧ 0 ≤ o ∧ o ≤ 4)) :
    Calls Tryd.prog 3 #[.agg #[.int .i64 t, .int .u64 d, .int .i64 o], .string s] w fun e w' => e = .returned (.bool true) ∧ Below w.heap.size w w' := by
  have hmx : Tryd.prog.follows .mixedOrders = true := by kernel_rfl
  obtain ⟨a, ha⟩ : ∃ a : Nat, IntKind.wrap .u64 t = a := ⟨(t % 18446744073709551616).toNat, by rw [IntKind.wrap_u64]; omega⟩
  obtain ⟨b, hb⟩ : ∃ a : Nat, IntKind.wrap .u64 o = a := ⟨(o % 18446744073709551616).toNat, by rw [IntKind.wrap_u64]; omega⟩
  have ha' := ha
  have hb' := hb
  rw [IntKind.wrap_u64] at ha' hb'
  obtain ⟨x, hxa⟩ : ∃ x : Nat, a % 256 = x := ⟨_, rfl⟩
  obtain ⟨y, hyb⟩ : ∃ x : Nat, b % 256 = x := ⟨_, rfl⟩
  have HWx : Hid (IntKind.wrap .u8 t = (x : Int)) := Lib.hid (by rw [IntKind.wrap_u8]; omega)
  have HWy : Hid (IntKind.wrap .u8 o = (y : Int)) := Lib.hid (by rw [IntKind.wrap_u8]; omega)
  obtain ⟨U, hU⟩ : ∃ U : ByteArray, (⟨(putL a 1 ++ putL b 1 ++ putL d 8).toArray⟩ : ByteArray) = U := ⟨_, rfl⟩
  obtain ⟨D, hD⟩ : ∃ U : ByteArray, (⟨(putL d 8).toArray⟩ : ByteArray) = U := ⟨_, rfl⟩
  obtain ⟨XY, hXY⟩ : ∃ U : ByteArray, (⟨(putL a 1 ++ putL b 1).toArray⟩ : ByteArray) = U := ⟨_, rfl⟩
  have hUsz : U.size = 10 := by rw [← hU, mkSz, List.length_append, List.length_append, putL_length, putL_length, putL_length]
  have hU0 : ∀ h : 0 < U.size, (U[0]'h).toNat = x := fun h => by subst hU; show (UInt8.ofNat (a % 256)).toNat = x; rw [UInt8.toNat_ofNat']; omega
  have hU1 : ∀ h : 1 < U.size, (U[1]'h).toNat = y := fun h => by subst hU; show (UInt8.ofNat (b % 256)).toNat = y; rw [UInt8.toNat_ofNat']; omega
  have hUd : getL (U.data.toList.drop 2) = d := by
    rw [← hU]
    show getL (((putL a 1 ++ putL b 1) ++ putL d 8).drop 2) = d
    rw [List.drop_append_of_le_length (by simp [putL_length]), List.drop_of_length_le (by simp [putL_length]), List.nil_append, getL_putL, Nat.mod_eq_of_lt (by omega)]
  have HT : Hid (∀ W, Calls Tryd.prog 8 #[.agg #[.int .i64 t, .int .u64 d, .int .i64 o]] W fun e w' => e = .returned (.string U) ∧ Below W.heap.size W w') := Lib.hid fun W => by
    rw [← hU]; exact text_any t o d a b ha hb (by omega) (by omega) hd W
  have HD : Hid (∀ W, Calls Tryd.prog 9 #[.int .u64 d, .int .i64 8] W fun e w' => e = .returned (.string D) ∧ Below W.heap.size W w') := Lib.hid fun W => by rw [← hD]; exact refPut_any d 8 W hd (by omega) (by omega)
  have HXY : Hid (∀ (W : World) (g : Nat), Row W g 5 [.int .u8 x, .int .u8 y] → (convert 30 9 (.slice (some ⟨g, 0, none⟩) 2 2)).run Tryd.prog W = .ok (.string XY) W) := Lib.hid fun W g h => by
    rw [← hXY]
    refine conv_bytes W _ _ 5 Tryd.underlying30 Tryd.underlying5 Tryd.underlying9 g 0 2 2 (putL a 1 ++ putL b 1) rfl fun i hi => ?_
    rw [Nat.zero_add, h.cell i]
    have e1 : (UInt8.ofNat (a % 256)).toNat = x := by rw [UInt8.toNat_ofNat']; omega
    have e2 : (UInt8.ofNat (b % 256)).toNat = y := by rw [UInt8.toNat_ofNat']; omega
    simp only [putL1, List.cons_append, List.nil_append, List.map_cons, List.map_nil, bv, e1, e2]
  have ad1 : ∀ W : World, (Op.stringOp .add XY D).run Tryd.prog W = .ok (.string U) W := fun W => by
    have h := run_string_add_sum W XY D (P := Tryd.prog) (by rw [← hXY, ← hD]; simp [mkSz, putL_length])
    rw [h, ← hU, ← hXY, ← hD, mkCat]
  have HPU : ∃ (X Y Z E : Int), Hid (∀ W, Calls Tryd.prog 7 #[.string U] W fun e w' => e = .returned (.tuple #[.agg #[.int .i64 X, .int .u64 Y, .int .i64 Z], .int .i64 E]) ∧ Below W.heap.size W w') := by
    by_cases hr : x ≤ 9 ∧ y ≤ 4
    · exact ⟨x, d, y, 0, Lib.hid fun W => by have h := parse_ok U hUsz x y hU0 hU1 hr.1 hr.2 W; rw [hUd] at h; exact h⟩
    · exact ⟨0, 0, 0, 4, Lib.hid fun W => parse_bad U hUsz x y hU0 hU1 (by omega) W⟩
  obtain ⟨X, Y, Z, E, HPU⟩ := HPU
  obtain ⟨d1, hd1⟩ : ∃ d1 : Nat, getL (s.data.toList.drop 2) = d1 := ⟨_, rfl⟩
  have HPs : Hid (∀ W, Calls Tryd.prog 7 #[.string s] W fun e w' => e = .returned (.tuple #[.agg #[.int .i64 x1, .int .u64 d1, .int .i64 y1], .int .i64 0]) ∧ Below W.heap.size W w') := Lib.hid fun W => by
    have h := parse_ok s hs x1 y1 hx hy hb1 hb2 W
    rw [hd1] at h
    exact h
  have HTX : Hid (∀ W, Calls Tryd.prog 8 #[.agg #[.int .i64 x1, .int .u64 d1, .int .i64 y1]] W fun e w' => e = .returned (.string s) ∧ Below W.heap.size W w') := Lib.hid fun W => by
    have hl : s.data.toList.length = 10 := by rw [← hs]; simp
    have hd8 : (s.data.toList.drop 2).length = 8 := by rw [List.length_drop]; omega
    have h64 := getL_lt8 (s.data.toList.drop 2) (by omega)
    have h := text_any x1 y1 d1 x1 y1 (by rw [IntKind.wrap_u64]; omega) (by rw [IntKind.wrap_u64]; omega) (by omega) (by omega) (by omega) W
    have e : (⟨(putL x1 1 ++ putL y1 1 ++ putL d1 8).toArray⟩ : ByteArray) = s := by
      apply ByteArray.ext
      apply Array.ext'
      show putL x1 1 ++ putL y1 1 ++ putL d1 8 = s.data.toList
      have h8 : putL d1 8 = s.data.toList.drop 2 := by rw [← hd1, ← hd8, putL_getL]
      have q0 := hx (by omega)
      have q1 := hy (by omega)
      rw [h8]
      have hsplit : s.data.toList = [s[0]'(by omega), s[1]'(by omega)] ++ s.data.toList.drop 2 := by
        have h2 := (List.take_append_drop 2 s.data.toList).symm
        have ht2 : s.data.toList.take 2 = [s[0]'(by omega), s[1]'(by omega)] := by
          apply List.ext_getElem
          · simp [hl]
          · intro i h1 h2
            have hi : i < 2 := by simpa using h2
            rw [List.getElem_take]
            match i, hi with
            | 0, _ => rfl
            | 1, _ => rfl
        rw [ht2] at h2
        exact h2
      rw [hsplit]
      have e0 : UInt8.ofNat (x1 % 256) = s[0]'(by omega) := by apply UInt8.toNat_inj.1; rw [UInt8.toNat_ofNat', q0]; omega
      have e1 : UInt8.ofNat (y1 % 256) = s[1]'(by omega) := by apply UInt8.toNat_inj.1; rw [UInt8.toNat_ofNat', q1]; omega
      rw [putL1, putL1, e0, e1]
      rfl
    rw [e] at h
    exact h
  have hnn : (s.toList == s.toList) = true := by simp
  have h0s : 0 < s.size := by omega
  have h1s : 1 < s.size := by omega
  have g0 := hx h0s
  have g1 := hy h1s
  have h1I : (1 : Int) < (s.size : Int) := by omega
  have hz10 : ((s.size : Int) == 10) = true := by rw [beq_iff_eq]; omega
  have hb1I : (x1 : Int) ≤ 9 := by omega
  have hb2I : (y1 : Int) ≤ 4 := by omega
  have hqq := fun W => st_eql X Y Z t d o W
  have h100I : ¬ (100 : Int) < (s.size : Int) := by omega
  have HA : Hid (∀ W, Below w.heap.size w W → Calls Tryd.prog 6 #[] W fun e w' => e = .returned (.bool true) ∧ Below W.heap.size W w') := Lib.hid fun W h => awake21_any W (hG.below h)
  have HB0 := Lib.hid ((Below.refl w.heap.size w).alloc (Nat.le_refl _) (.cells #[.int .i64 t, .int .u64 d, .int .i64 o] 24))
  have HR0 := Lib.hid (Row.new w 24 [.int .i64 t, .int .u64 d, .int .i64 o])
  have hz0 : w.heap.size ≤ (w.alloc (.cells #[.int .i64 t, .int .u64 d, .int .i64 o] 24)).heap.size := HB0.out.size
  clear ha hb ha' hb' hxa hyb hU hD hXY hUsz hU0 hU1 hUd hs h100 hd hG hx hy hd1 hb1 hb2
  go_enter Tryd.func3, Tryd.ntmps3
  go_wp2_with fail
  generalize w.alloc (.cells #[.int .i64 t, .int .u64 d, .int .i64 o] 24) = w0 at HB0 HR0 hz0 ⊢
  have hgP0 : w.heap.size < w0.heap.size := HR0.out.lt
  refine (HA.out _ HB0.out).mono ?_
  rintro e yw1 ⟨rfl, hb1⟩
  have B1 := Lib.hid (HB0.out.trans (hb1.mono hz0))
  have hz1 : w.heap.size ≤ yw1.heap.size := B1.out.size
  have RP1 : Hid (Row yw1 w.heap.size 24 [.int .i64 t, .int .u64 d, .int .i64 o]) := Lib.hid (HR0.out.below hb1 hgP0)
  have hgP1 : w.heap.size < yw1.heap.size := RP1.out.lt
  clear hb1
  go_wp2_with fail
  refine (HPs.out _).mono ?_
  rintro e yw2 ⟨rfl, hb2⟩
  have B2 := Lib.hid (B1.out.trans (hb2.mono hz1))
  have hz2 : w.heap.size ≤ yw2.heap.size := B2.out.size
  have RP2 : Hid (Row yw2 w.heap.size 24 [.int .i64 t, .int .u64 d, .int .i64 o]) := Lib.hid (RP1.out.below hb2 hgP1)
  have hgP2 : w.heap.size < yw2.heap.size := RP2.out.lt
  clear hb2
  have cP2_0 := RP2.out.cell 0
  have cP2_1 := RP2.out.cell 1
  have cP2_2 := RP2.out.cell 2
  simp only [List.getElem?_cons_zero, List.getElem?_cons_succ] at cP2_0 cP2_1 cP2_2
  go_wp2_with fail
  refine (HTX.out _).mono ?_
  rintro e yw3 ⟨rfl, hb3⟩
  have B3 := Lib.hid ((B2.out.alloc hz2 _).trans (hb3.mono (by simp; omega)))
  have hz3 : w.heap.size ≤ yw3.heap.size := B3.out.size
  have RP3 : Hid (Row yw3 w.heap.size 24 [.int .i64 t, .int .u64 d, .int .i64 o]) := Lib.hid ((RP2.out.alloc _).below hb3 (by simp; omega))
  have hgP3 : w.heap.size < yw3.heap.size := RP3.out.lt
  have RX3 : Hid (Row yw3 yw2.heap.size 24 [.int .i64 x1, .int .u64 d1, .int .i64 y1]) := Lib.hid ((Row.new yw2 24 [.int .i64 x1, .int .u64 d1, .int .i64 y1]).below hb3 (by simp))
  have hgX3 : yw2.heap.size < yw3.heap.size := RX3.out.lt
  clear hb3
  have cP3_0 := RP3.out.cell 0
  have cP3_1 := RP3.out.cell 1
  have cP3_2 := RP3.out.cell 2
  simp only [List.getElem?_cons_zero, List.getElem?_cons_succ] at cP3_0 cP3_1 cP3_2
  go_wp2_with fail
  refine (HT.out _).mono ?_
  rintro e yw4 ⟨rfl, hb4⟩
  have B4 := Lib.hid (B3.out.trans (hb4.mono hz3))
  have hz4 : w.heap.size ≤ yw4.heap.size := B4.out.size
  have RP4 : Hid (Row yw4 w.heap.size 24 [.int .i64 t, .int .u64 d, .int .i64 o]) := Lib.hid (RP3.out.below hb4 hgP3)
  have hgP4 : w.heap.size < yw4.heap.size := RP4.out.lt
  have RX4 : Hid (Row yw4 yw2.heap.size 24 [.int .i64 x1, .int .u64 d1, .int .i64 y1]) := Lib.hid (RX3.out.below hb4 hgX3)
  have hgX4 : yw2.heap.size < yw4.heap.size := RX4.out.lt
  clear hb4
  go_wp2_with fail
  have HRow : Hid (∀ W, Below yw4.heap.size yw4 W → Row W w.heap.size 24 [.int .i64 t, .int .u64 d, .int .i64 o]) := Lib.hid fun W h => RP4.out.below h RP4.out.lt
  refine wp_region_slotsB (m := 14) [] hmx (fun i v W => (i = 7 → (fun v W => ∃ g, v = .slice (some ⟨g, 0, none⟩) 2 2 ∧ Row W g 5 [.int .u8 x, .int .u8 y]) v W) ∧ (i ≠ 7 → v = ([.string U, .pointer (some ⟨w.heap.size, 0, none⟩), .int .i64 t, .int .u8 x, .pointer (some ⟨w.heap.size, 2, none⟩), .int .i64 o, .int .u8 y, undef, .string XY, .pointer (some ⟨w.heap.size, 1, none⟩), .int .u64 d, .string D, .string U, .bool false] : List Value).getD i undef)) (Below yw4.heap.size yw4) (by kernel_rfl) (by kernel_rfl) (fun i v W W' h hb => ⟨fun e => by obtain ⟨g, h1, h2⟩ := h.1 e; exact ⟨g, h1, h2.onwardO hb⟩, h.2⟩) ((Below.refl _ _).drew) ?_ ?_
  · refine ⟨?_, ?_, ?_, ?_, ?_, ?_, ?_, ?_, ?_, ?_, ?_, ?_, ?_, ?_, trivial⟩
    · intro ρ vals W hC hd ht hk hg hf
      have e8 := ht 8
      rw [evalS_old (by kernel_rfl)] at e8
      clear ht hd
      unfold StepOK
      go_simp
      exact Below.refl _ _
    · intro ρ vals W hC hd ht hk hg hf
      have e2 := ht 2
      rw [evalS_old (by kernel_rfl)] at e2
      clear ht hd
      unfold StepOK
      go_simp
      exact Below.refl _ _
    · intro ρ vals W hC hd ht hk hg hf
      have d1 := (hd 1 (by kernel_rfl)).2 (by decide)
      have e63 := ht 63
      rw [evalS_tmp (i := 1) (by kernel_rfl), d1] at e63
      clear ht hd d1
      have q := (HRow.out W hC).cell 0
      simp only [List.getElem?_cons_zero, List.getElem?_cons_succ] at q
      unfold StepOK
      go_simp
      exact Below.refl _ _
    · intro ρ vals W hC hd ht hk hg hf
      have d2 := (hd 2 (by kernel_rfl)).2 (by decide)
      have e64 := ht 64
      rw [evalS_tmp (i := 2) (by kernel_rfl), d2] at e64
      clear ht hd d2
      have g := HWx.out
      unfold StepOK
      go_simp
      exact Below.refl _ _
    · intro ρ vals W hC hd ht hk hg hf
      have e2 := ht 2
      rw [evalS_old (by kernel_rfl)] at e2
      clear ht hd
      unfold StepOK
      go_simp
      exact Below.refl _ _
    · intro ρ vals W hC hd ht hk hg hf
      have d4 := (hd 4 (by kernel_rfl)).2 (by decide)
      have e66 := ht 66
      rw [evalS_tmp (i := 4) (by kernel_rfl), d4] at e66
      clear ht hd d4
      have q := (HRow.out W hC).cell 2
      simp only [List.getElem?_cons_zero, List.getElem?_cons_succ] at q
      unfold StepOK
      go_simp
      exact Below.refl _ _
    · intro ρ vals W hC hd ht hk hg hf
      have d5 := (hd 5 (by kernel_rfl)).2 (by decide)
      have e67 := ht 67
      rw [evalS_tmp (i := 5) (by kernel_rfl), d5] at e67
      clear ht hd d5
      have g := HWy.out
      unfold StepOK
      go_simp
      exact Below.refl _ _
    · intro ρ vals W hC hd ht hk hg hf
      have d3 := (hd 3 (by kernel_rfl)).2 (by decide)
      have e65 := ht 65
      rw [evalS_tmp (i := 3) (by kernel_rfl), d3] at e65
      have d6 := (hd 6 (by kernel_rfl)).2 (by decide)
      have e68 := ht 68
      rw [evalS_tmp (i := 6) (by kernel_rfl), d6] at e68
      clear ht hd d3 d6
      unfold StepOK
      go_simp
      exact ⟨Row.new W 5 [.int .u8 x, .int .u8 y], hC.alloc hC.size _, (Below.refl _ _).alloc (Nat.le_refl _) _⟩
    · intro ρ vals W hC hd ht hk hg hf
      obtain ⟨g7, d7, row7⟩ := (hd 7 (by kernel_rfl)).1 rfl
      have e69 := ht 69
      rw [evalS_tmp (i := 7) (by kernel_rfl), d7] at e69
      clear ht hd d7
      have g := HXY.out W g7 row7
      unfold StepOK
      go_simp
      exact Below.refl _ _
    · intro ρ vals W hC hd ht hk hg hf
      have e2 := ht 2
      rw [evalS_old (by kernel_rfl)] at e2
      clear ht hd
      unfold StepOK
      go_simp
      exact Below.refl _ _
    · intro ρ vals W hC hd ht hk hg hf
      have d9 := (hd 9 (by kernel_rfl)).2 (by decide)
      have e71 := ht 71
      rw [evalS_tmp (i := 9) (by kernel_rfl), d9] at e71
      clear ht hd d9
      have q := (HRow.out W hC).cell 1
      simp only [List.getElem?_cons_zero, List.getElem?_cons_succ] at q
      unfold StepOK
      go_simp
      exact Below.refl _ _
    · intro ρ vals W hC hd ht hk hg hf
      have d10 := (hd 10 (by kernel_rfl)).2 (by decide)
      have e72 := ht 72
      rw [evalS_tmp (i := 10) (by kernel_rfl), d10] at e72
      clear ht hd d10
      unfold StepOK
      go_simp
      refine (HD.out W).mono ?_
      rintro e w' ⟨rfl, hb⟩
      exact ⟨_, rfl, rfl, hC.trans (hb.mono hC.size), hb⟩
    · intro ρ vals W hC hd ht hk hg hf
      have d8 := (hd 8 (by kernel_rfl)).2 (by decide)
      have e70 := ht 70
      rw [evalS_tmp (i := 8) (by kernel_rfl), d8] at e70
      have d11 := (hd 11 (by kernel_rfl)).2 (by decide)
      have e73 := ht 73
      rw [evalS_tmp (i := 11) (by kernel_rfl), d11] at e73
      clear ht hd d8 d11
      unfold StepOK
      go_simp
      exact Below.refl _ _
    · intro ρ vals W hC hd ht hk hg hf
      have d0 := (hd 0 (by kernel_rfl)).2 (by decide)
      have e62 := ht 62
      rw [evalS_tmp (i := 0) (by kernel_rfl), d0] at e62
      have d12 := (hd 12 (by kernel_rfl)).2 (by decide)
      have e74 := ht 74
      rw [evalS_tmp (i := 12) (by kernel_rfl), d12] at e74
      clear ht hd d0 d12
      unfold StepOK
      go_simp
      exact Below.refl _ _
  · intro vals W hC hR
    have r0 : vals 0 = .string U := (hR 0 (by omega)).2 (by decide)
    have r1 : vals 1 = .pointer (some ⟨w.heap.size, 0, none⟩) := (hR 1 (by omega)).2 (by decide)
    have r2 : vals 2 = .int .i64 t := (hR 2 (by omega)).2 (by decide)
    have r3 : vals 3 = .int .u8 x := (hR 3 (by omega)).2 (by decide)
    have r4 : vals 4 = .pointer (some ⟨w.heap.size, 2, none⟩) := (hR 4 (by omega)).2 (by decide)
    have r5 : vals 5 = .int .i64 o := (hR 5 (by omega)).2 (by decide)
    have r6 : vals 6 = .int .u8 y := (hR 6 (by omega)).2 (by decide)
    obtain ⟨g7, r7, row7⟩ := (hR 7 (by omega)).1 rfl
    have r8 : vals 8 = .string XY := (hR 8 (by omega)).2 (by decide)
    have r9 : vals 9 = .pointer (some ⟨w.heap.size, 1, none⟩) := (hR 9 (by omega)).2 (by decide)
    have r10 : vals 10 = .int .u64 d := (hR 10 (by omega)).2 (by decide)
    have r11 : vals 11 = .string D := (hR 11 (by omega)).2 (by decide)
    have r12 : vals 12 = .string U := (hR 12 (by omega)).2 (by decide)
    have r13 : vals 13 = .bool false := (hR 13 (by omega)).2 (by decide)
    clear hR
    simp only [wpOps, List.take, putsS, Act.put, List.setIfInBounds_toArray, List.set_cons_zero, List.set_cons_succ, Nat.reduceAdd, r0, r1, r2, r3, r4, r5, r6, r7, r8, r9, r10, r11, r12, r13]
    clear r0 r1 r2 r3 r4 r5 r6 r7 r8 r9 r10 r11 r12 r13
    have BW := Lib.hid (B4.out.trans (hC.mono hz4))
    have RW := Lib.hid (HRow.out W hC)
    have hzW : w.heap.size ≤ W.heap.size := BW.out.size
    have hgW : w.heap.size < W.heap.size := RW.out.lt
    go_wp2_with fail
    refine (HPU.out _).mono ?_
    rintro e v1 ⟨rfl, hv1⟩
    have BV := Lib.hid (BW.out.trans (hv1.mono hzW))
    have RV := RW.out.below hv1 hgW
    have p0 := RV.cell 0
    have p1 := RV.cell 1
    have p2 := RV.cell 2
    simp only [List.getElem?_cons_zero, List.getElem?_cons_succ] at p0 p1 p2
    have hgV : w.heap.size < v1.heap.size := RV.lt
    have hzV : w.heap.size ≤ v1.heap.size := BV.out.size
    clear hv1 RV
    go_wp2_with fail
    all_goals first
      | (go_ret; exact ⟨rfl, BV.out.alloc hzV _⟩)
      | (exfalso; omega)


set_option maxRecDepth 100000 in
set_option maxHeartbeats 4000000 in
theorem otpTexts_Si (t : Int) (d : Nat) (o : Int) (s : ByteArray) (ht : -9223372036854775808 ≤ t ∧ t ≤ 9223372036854775807) (hd : d < 18446744073709551616) (ho : -9223372036854775808 ≤ o ∧ o ≤ 9223372036854775807) (h100 : s.size ≤ 100) (w : World) (hG : G w)
    (hs : s.size ≠ 10) (hin : 0 ≤ t ∧ t ≤ 9 ∧ 0 ≤ o ∧ o ≤ 4) :
    Calls Tryd.prog 3 #[.agg #[.int .i64 t, .int .u64 d, .int .i64 o], .string s] w fun e w' => e = .returned (.bool true) ∧ Below w.heap.size w w' := by
  have hmx : Tryd.prog.follows .mixedOrders = true := by kernel_rfl
  obtain ⟨a, ha⟩ : ∃ a : Nat, IntKind.wrap .u64 t = a := ⟨(t % 18446744073709551616).toNat, by rw [IntKind.wrap_u64]; omega⟩
  obtain ⟨b, hb⟩ : ∃ a : Nat, IntKind.wrap .u64 o = a := ⟨(o % 18446744073709551616).toNat, by rw [IntKind.wrap_u64]; omega⟩
  have ha' := ha
  have hb' := hb
  rw [IntKind.wrap_u64] at ha' hb'
  obtain ⟨x, hxa⟩ : ∃ x : Nat, a % 256 = x := ⟨_, rfl⟩
  obtain ⟨y, hyb⟩ : ∃ x : Nat, b % 256 = x := ⟨_, rfl⟩
  have HWx : Hid (IntKind.wrap .u8 t = (x : Int)) := Lib.hid (by rw [IntKind.wrap_u8]; omega)
  have HWy : Hid (IntKind.wrap .u8 o = (y : Int)) := Lib.hid (by rw [IntKind.wrap_u8]; omega)
  obtain ⟨U, hU⟩ : ∃ U : ByteArray, (⟨(putL a 1 ++ putL b 1 ++ putL d 8).toArray⟩ : ByteArray) = U := ⟨_, rfl⟩
  obtain ⟨D, hD⟩ : ∃ U : ByteArray, (⟨(putL d 8).toArray⟩ : ByteArray) = U := ⟨_, rfl⟩
  obtain ⟨XY, hXY⟩ : ∃ U : ByteArray, (⟨(putL a 1 ++ putL b 1).toArray⟩ : ByteArray) = U := ⟨_, rfl⟩
  have hUsz : U.size = 10 := by rw [← hU, mkSz, List.length_append, List.length_append, putL_length, putL_length, putL_length]
  have hU0 : ∀ h : 0 < U.size, (U[0]'h).toNat = x := fun h => by subst hU; show (UInt8.ofNat (a % 256)).toNat = x; rw [UInt8.toNat_ofNat']; omega
  have hU1 : ∀ h : 1 < U.size, (U[1]'h).toNat = y := fun h => by subst hU; show (UInt8.ofNat (b % 256)).toNat = y; rw [UInt8.toNat_ofNat']; omega
  have hUd : getL (U.data.toList.drop 2) = d := by
    rw [← hU]
    show getL (((putL a 1 ++ putL b 1) ++ putL d 8).drop 2) = d
    rw [List.drop_append_of_le_length (by simp [putL_length]), List.drop_of_length_le (by simp [putL_length]), List.nil_append, getL_putL, Nat.mod_eq_of_lt (by omega)]
  have HT : Hid (∀ W, Calls Tryd.prog 8 #[.agg #[.int .i64 t, .int .u64 d, .int .i64 o]] W fun e w' => e = .returned (.string U) ∧ Below W.heap.size W w') := Lib.hid fun W => by
    rw [← hU]; exact text_any t o d a b ha hb (by omega) (by omega) hd W
  have HD : Hid (∀ W, Calls Tryd.prog 9 #[.int .u64 d, .int .i64 8] W fun e w' => e = .returned (.string D) ∧ Below W.heap.size W w') := Lib.hid fun W => by rw [← hD]; exact refPut_any d 8 W hd (by omega) (by omega)
  have HXY : Hid (∀ (W : World) (g : Nat), Row W g 5 [.int .u8 x, .int .u8 y] → (convert 30 9 (.slice (some ⟨g, 0, none⟩) 2 2)).run Tryd.prog W = .ok (.string XY) W) := Lib.hid fun W g h => by
    rw [← hXY]
    refine conv_bytes W _ _ 5 Tryd.underlying30 Tryd.underlying5 Tryd.underlying9 g 0 2 2 (putL a 1 ++ putL b 1) rfl fun i hi => ?_
    rw [Nat.zero_add, h.cell i]
    have e1 : (UInt8.ofNat (a % 256)).toNat = x := by rw [UInt8.toNat_ofNat']; omega
    have e2 : (UInt8.ofNat (b % 256)).toNat = y := by rw [UInt8.toNat_ofNat']; omega
    simp only [putL1, List.cons_append, List.nil_append, List.map_cons, List.map_nil, bv, e1, e2]
  have ad1 : ∀ W : World, (Op.stringOp .add XY D).run Tryd.prog W = .ok (.string U) W := fun W => by
    have h := run_string_add_sum W XY D (P := Tryd.prog) (by rw [← hXY, ← hD]; simp [mkSz, putL_length])
    rw [h, ← hU, ← hXY, ← hD, mkCat]
  have HPU : Hid (∀ W, Calls Tryd.prog 7 #[.string U] W fun e w' => e = .returned (.tuple #[.agg #[.int .i64 t, .int .u64 d, .int .i64 o], .int .i64 0]) ∧ Below W.heap.size W w') := Lib.hid fun W => by
    have h := parse_ok U hUsz x y hU0 hU1 (by omega) (by omega) W
    rw [hUd, show (x : Int) = t by omega, show (y : Int) = o by omega] at h
    exact h
  have HPs : Hid (∀ W, Calls Tryd.prog 7 #[.string s] W fun e w' => e = .returned (.tuple #[.agg #[.int .i64 0, .int .u64 0, .int .i64 0], .int .i64 4]) ∧ Below W.heap.size W w') := Lib.hid fun W => parse_size s hs W
  have hnn := fun W => st_selfN 0 0 0 W
  have hz10 : ((s.size : Int) == 10) = false := by rw [beq_eq_false_iff_ne]; omega
  have i1 : ¬ t < 0 := by omega
  have i2 : ¬ 9 < t := by omega
  have i3 : ¬ o < 0 := by omega
  have i4 : ¬ 4 < o := by omega
  have hqq := fun W => st_self t d o W
  have h100I : ¬ (100 : Int) < (s.size : Int) := by omega
  have HA : Hid (∀ W, Below w.heap.size w W → Calls Tryd.prog 6 #[] W fun e w' => e = .returned (.bool true) ∧ Below W.heap.size W w') := Lib.hid fun W h => awake21_any W (hG.below h)
  have HB0 := Lib.hid ((Below.refl w.heap.size w).alloc (Nat.le_refl _) (.cells #[.int .i64 t, .int .u64 d, .int .i64 o] 24))
  have HR0 := Lib.hid (Row.new w 24 [.int .i64 t, .int .u64 d, .int .i64 o])
  have hz0 : w.heap.size ≤ (w.alloc (.cells #[.int .i64 t, .int .u64 d, .int .i64 o] 24)).heap.size := HB0.out.size
  clear ha hb ha' hb' hxa hyb hU hD hXY hUsz hU0 hU1 hUd hs h100 hd hG
  go_enter Tryd.func3, Tryd.ntmps3
  go_wp2_with fail
  generalize w.alloc (.cells #[.int .i64 t, .int .u64 d, .int .i64 o] 24) = w0 at HB0 HR0 hz0 ⊢
  have hgP0 : w.heap.size < w0.heap.size := HR0.out.lt
  refine (HA.out _ HB0.out).mono ?_
  rintro e yw1 ⟨rfl, hb1⟩
  have B1 := Lib.hid (HB0.out.trans (hb1.mono hz0))
  have hz1 : w.heap.size ≤ yw1.heap.size := B1.out.size
  have RP1 : Hid (Row yw1 w.heap.size 24 [.int .i64 t, .int .u64 d, .int .i64 o]) := Lib.hid (HR0.out.below hb1 hgP0)
  have hgP1 : w.heap.size < yw1.heap.size := RP1.out.lt
  clear hb1
  go_wp2_with fail
  refine (HPs.out _).mono ?_
  rintro e yw2 ⟨rfl, hb2⟩
  have B2 := Lib.hid (B1.out.trans (hb2.mono hz1))
  have hz2 : w.heap.size ≤ yw2.heap.size := B2.out.size
  have RP2 : Hid (Row yw2 w.heap.size 24 [.int .i64 t, .int .u64 d, .int .i64 o]) := Lib.hid (RP1.out.below hb2 hgP1)
  have hgP2 : w.heap.size < yw2.heap.size := RP2.out.lt
  clear hb2
  have cP2_0 := RP2.out.cell 0
  have cP2_1 := RP2.out.cell 1
  have cP2_2 := RP2.out.cell 2
  simp only [List.getElem?_cons_zero, List.getElem?_cons_succ] at cP2_0 cP2_1 cP2_2
  go_wp2_with fail
  refine (HT.out _).mono ?_
  rintro e yw3 ⟨rfl, hb3⟩
  have B3 := Lib.hid ((B2.out.alloc hz2 _).trans (hb3.mono (by simp; omega)))
  have hz3 : w.heap.size ≤ yw3.heap.size := B3.out.size
  have RP3 : Hid (Row yw3 w.heap.size 24 [.int .i64 t, .int .u64 d, .int .i64 o]) := Lib.hid ((RP2.out.alloc _).below hb3 (by simp; omega))
  have hgP3 : w.heap.size < yw3.heap.size := RP3.out.lt
  have RX3 : Hid (Row yw3 yw2.heap.size 24 [.int .i64 0, .int .u64 0, .int .i64 0]) := Lib.hid ((Row.new yw2 24 [.int .i64 0, .int .u64 0, .int .i64 0]).below hb3 (by simp))
  have hgX3 : yw2.heap.size < yw3.heap.size := RX3.out.lt
  clear hb3
  go_wp2_with fail
  have HRow : Hid (∀ W, Below yw3.heap.size yw3 W → Row W w.heap.size 24 [.int .i64 t, .int .u64 d, .int .i64 o]) := Lib.hid fun W h => RP3.out.below h RP3.out.lt
  refine wp_region_slotsB (m := 14) [] hmx (fun i v W => (i = 7 → (fun v W => ∃ g, v = .slice (some ⟨g, 0, none⟩) 2 2 ∧ Row W g 5 [.int .u8 x, .int .u8 y]) v W) ∧ (i ≠ 7 → v = ([.string U, .pointer (some ⟨w.heap.size, 0, none⟩), .int .i64 t, .int .u8 x, .pointer (some ⟨w.heap.size, 2, none⟩), .int .i64 o, .int .u8 y, undef, .string XY, .pointer (some ⟨w.heap.size, 1, none⟩), .int .u64 d, .string D, .string U, .bool false] : List Value).getD i undef)) (Below yw3.heap.size yw3) (by kernel_rfl) (by kernel_rfl) (fun i v W W' h hb => ⟨fun e => by obtain ⟨g, h1, h2⟩ := h.1 e; exact ⟨g, h1, h2.onwardO hb⟩, h.2⟩) ((Below.refl _ _).drew) ?_ ?_
  · refine ⟨?_, ?_, ?_, ?_, ?_, ?_, ?_, ?_, ?_, ?_, ?_, ?_, ?_, ?_, trivial⟩
    · intro ρ vals W hC hd ht hk hg hf
      have e8 := ht 8
      rw [evalS_old (by kernel_rfl)] at e8
      clear ht hd
      unfold StepOK
      go_simp
      exact Below.refl _ _
    · intro ρ vals W hC hd ht hk hg hf
      have e2 := ht 2
      rw [evalS_old (by kernel_rfl)] at e2
      clear ht hd
      unfold StepOK
      go_simp
      exact Below.refl _ _
    · intro ρ vals W hC hd ht hk hg hf
      have d1 := (hd 1 (by kernel_rfl)).2 (by decide)
      have e63 := ht 63
      rw [evalS_tmp (i := 1) (by kernel_rfl), d1] at e63
      clear ht hd d1
      have q := (HRow.out W hC).cell 0
      simp only [List.getElem?_cons_zero, List.getElem?_cons_succ] at q
      unfold StepOK
      go_simp
      exact Below.refl _ _
    · intro ρ vals W hC hd ht hk hg hf
      have d2 := (hd 2 (by kernel_rfl)).2 (by decide)
      have e64 := ht 64
      rw [evalS_tmp (i := 2) (by kernel_rfl), d2] at e64
      clear ht hd d2
      have g := HWx.out
      unfold StepOK
      go_simp
      exact Below.refl _ _
    · intro ρ vals W hC hd ht hk hg hf
      have e2 := ht 2
      rw [evalS_old (by kernel_rfl)] at e2
      clear ht hd
      unfold StepOK
      go_simp
      exact Below.refl _ _
    · intro ρ vals W hC hd ht hk hg hf
      have d4 := (hd 4 (by kernel_rfl)).2 (by decide)
      have e66 := ht 66
      rw [evalS_tmp (i := 4) (by kernel_rfl), d4] at e66
      clear ht hd d4
      have q := (HRow.out W hC).cell 2
      simp only [List.getElem?_cons_zero, List.getElem?_cons_succ] at q
      unfold StepOK
      go_simp
      exact Below.refl _ _
    · intro ρ vals W hC hd ht hk hg hf
      have d5 := (hd 5 (by kernel_rfl)).2 (by decide)
      have e67 := ht 67
      rw [evalS_tmp (i := 5) (by kernel_rfl), d5] at e67
      clear ht hd d5
      have g := HWy.out
      unfold StepOK
      go_simp
      exact Below.refl _ _
    · intro ρ vals W hC hd ht hk hg hf
      have d3 := (hd 3 (by kernel_rfl)).2 (by decide)
      have e65 := ht 65
      rw [evalS_tmp (i := 3) (by kernel_rfl), d3] at e65
      have d6 := (hd 6 (by kernel_rfl)).2 (by decide)
      have e68 := ht 68
      rw [evalS_tmp (i := 6) (by kernel_rfl), d6] at e68
      clear ht hd d3 d6
      unfold StepOK
      go_simp
      exact ⟨Row.new W 5 [.int .u8 x, .int .u8 y], hC.alloc hC.size _, (Below.refl _ _).alloc (Nat.le_refl _) _⟩
    · intro ρ vals W hC hd ht hk hg hf
      obtain ⟨g7, d7, row7⟩ := (hd 7 (by kernel_rfl)).1 rfl
      have e69 := ht 69
      rw [evalS_tmp (i := 7) (by kernel_rfl), d7] at e69
      clear ht hd d7
      have g := HXY.out W g7 row7
      unfold StepOK
      go_simp
      exact Below.refl _ _
    · intro ρ vals W hC hd ht hk hg hf
      have e2 := ht 2
      rw [evalS_old (by kernel_rfl)] at e2
      clear ht hd
      unfold StepOK
      go_simp
      exact Below.refl _ _
    · intro ρ vals W hC hd ht hk hg hf
      have d9 := (hd 9 (by kernel_rfl)).2 (by decide)
      have e71 := ht 71
      rw [evalS_tmp (i := 9) (by kernel_rfl), d9] at e71
      clear ht hd d9
      have q := (HRow.out W hC).cell 1
      simp only [List.getElem?_cons_zero, List.getElem?_cons_succ] at q
      unfold StepOK
      go_simp
      exact Below.refl _ _
    · intro ρ vals W hC hd ht hk hg hf
      have d10 := (hd 10 (by kernel_rfl)).2 (by decide)
      have e72 := ht 72
      rw [evalS_tmp (i := 10) (by kernel_rfl), d10] at e72
      clear ht hd d10
      unfold StepOK
      go_simp
      refine (HD.out W).mono ?_
      rintro e w' ⟨rfl, hb⟩
      exact ⟨_, rfl, rfl, hC.trans (hb.mono hC.size), hb⟩
    · intro ρ vals W hC hd ht hk hg hf
      have d8 := (hd 8 (by kernel_rfl)).2 (by decide)
      have e70 := ht 70
      rw [evalS_tmp (i := 8) (by kernel_rfl), d8] at e70
      have d11 := (hd 11 (by kernel_rfl)).2 (by decide)
      have e73 := ht 73
      rw [evalS_tmp (i := 11) (by kernel_rfl), d11] at e73
      clear ht hd d8 d11
      unfold StepOK
      go_simp
      exact Below.refl _ _
    · intro ρ vals W hC hd ht hk hg hf
      have d0 := (hd 0 (by kernel_rfl)).2 (by decide)
      have e62 := ht 62
      rw [evalS_tmp (i := 0) (by kernel_rfl), d0] at e62
      have d12 := (hd 12 (by kernel_rfl)).2 (by decide)
      have e74 := ht 74
      rw [evalS_tmp (i := 12) (by kernel_rfl), d12] at e74
      clear ht hd d0 d12
      unfold StepOK
      go_simp
      exact Below.refl _ _
  · intro vals W hC hR
    have r0 : vals 0 = .string U := (hR 0 (by omega)).2 (by decide)
    have r1 : vals 1 = .pointer (some ⟨w.heap.size, 0, none⟩) := (hR 1 (by omega)).2 (by decide)
    have r2 : vals 2 = .int .i64 t := (hR 2 (by omega)).2 (by decide)
    have r3 : vals 3 = .int .u8 x := (hR 3 (by omega)).2 (by decide)
    have r4 : vals 4 = .pointer (some ⟨w.heap.size, 2, none⟩) := (hR 4 (by omega)).2 (by decide)
    have r5 : vals 5 = .int .i64 o := (hR 5 (by omega)).2 (by decide)
    have r6 : vals 6 = .int .u8 y := (hR 6 (by omega)).2 (by decide)
    obtain ⟨g7, r7, row7⟩ := (hR 7 (by omega)).1 rfl
    have r8 : vals 8 = .string XY := (hR 8 (by omega)).2 (by decide)
    have r9 : vals 9 = .pointer (some ⟨w.heap.size, 1, none⟩) := (hR 9 (by omega)).2 (by decide)
    have r10 : vals 10 = .int .u64 d := (hR 10 (by omega)).2 (by decide)
    have r11 : vals 11 = .string D := (hR 11 (by omega)).2 (by decide)
    have r12 : vals 12 = .string U := (hR 12 (by omega)).2 (by decide)
    have r13 : vals 13 = .bool false := (hR 13 (by omega)).2 (by decide)
    clear hR
    simp only [wpOps, List.take, putsS, Act.put, List.setIfInBounds_toArray, List.set_cons_zero, List.set_cons_succ, Nat.reduceAdd, r0, r1, r2, r3, r4, r5, r6, r7, r8, r9, r10, r11, r12, r13]
    clear r0 r1 r2 r3 r4 r5 r6 r7 r8 r9 r10 r11 r12 r13
    have BW := Lib.hid (B3.out.trans (hC.mono hz3))
    have RW := Lib.hid (HRow.out W hC)
    have hzW : w.heap.size ≤ W.heap.size := BW.out.size
    have hgW : w.heap.size < W.heap.size := RW.out.lt
    go_wp2_with fail
    refine (HPU.out _).mono ?_
    rintro e v1 ⟨rfl, hv1⟩
    have BV := Lib.hid (BW.out.trans (hv1.mono hzW))
    have RV := RW.out.below hv1 hgW
    have p0 := RV.cell 0
    have p1 := RV.cell 1
    have p2 := RV.cell 2
    simp only [List.getElem?_cons_zero, List.getElem?_cons_succ] at p0 p1 p2
    have hgV : w.heap.size < v1.heap.size := RV.lt
    have hzV : w.heap.size ≤ v1.heap.size := BV.out.size
    clear hv1 RV
    go_wp2_with fail
    go_ret
    exact ⟨rfl, BV.out.alloc hzV _⟩


set_option maxRecDepth 100000 in
set_option maxHeartbeats 4000000 in
theorem otpTexts_So (t : Int) (d : Nat) (o : Int) (s : ByteArray) (ht : -9223372036854775808 ≤ t ∧ t ≤ 9223372036854775807) (hd : d < 18446744073709551616) (ho : -9223372036854775808 ≤ o ∧ o ≤ 9223372036854775807) (h100 : s.size ≤ 100) (w : World) (hG : G w)
    (hs : s.size ≠ 10) (hin : ¬ (0 ≤ t ∧ t ≤ 9 ∧ 0 ≤ o ∧ o ≤ 4)) :
    Calls Tryd.prog 3 #[.agg #[.int .i64 t, .int .u64 d, .int .i64 o], .string s] w fun e w' => e = .returned (.bool true) ∧ Below w.heap.size w w' := by
  have hmx : Tryd.prog.follows .mixedOrders = true := by kernel_rfl
  obtain ⟨a, ha⟩ : ∃ a : Nat, IntKind.wrap .u64 t = a := ⟨(t % 18446744073709551616).toNat, by rw [IntKind.wrap_u64]; omega⟩
  obtain ⟨b, hb⟩ : ∃ a : Nat, IntKind.wrap .u64 o = a := ⟨(o % 18446744073709551616).toNat, by rw [IntKind.wrap_u64]; omega⟩
  have ha' := ha
  have hb' := hb
  rw [IntKind.wrap_u64] at ha' hb'
  obtain ⟨x, hxa⟩ : ∃ x : Nat, a % 256 = x := ⟨_, rfl⟩
  obtain ⟨y, hyb⟩ : ∃ x : Nat, b % 256 = x := ⟨_, rfl⟩
  have HWx : Hid (IntKind.wrap .u8 t = (x : Int)) := Lib.hid (by rw [IntKind.wrap_u8]; omega)
  have HWy : Hid (IntKind.wrap .u8 o = (y : Int)) := Lib.hid (by rw [IntKind.wrap_u8]; omega)
  obtain ⟨U, hU⟩ : ∃ U : ByteArray, (⟨(putL a 1 ++ putL b 1 ++ putL d 8).toArray⟩ : ByteArray) = U := ⟨_, rfl⟩
  obtain ⟨D, hD⟩ : ∃ U : ByteArray, (⟨(putL d 8).toArray⟩ : ByteArray) = U := ⟨_, rfl⟩
  obtain ⟨XY, hXY⟩ : ∃ U : ByteArray, (⟨(putL a 1 ++ putL b 1).toArray⟩ : ByteArray) = U := ⟨_, rfl⟩
  have hUsz : U.size = 10 := by rw [← hU, mkSz, List.length_append, List.length_append, putL_length, putL_length, putL_length]
  have hU0 : ∀ h : 0 < U.size, (U[0]'h).toNat = x := fun h => by subst hU; show (UInt8.ofNat (a % 256)).toNat = x; rw [UInt8.toNat_ofNat']; omega
  have hU1 : ∀ h : 1 < U.size, (U[1]'h).toNat = y := fun h => by subst hU; show (UInt8.ofNat (b % 256)).toNat = y; rw [UInt8.toNat_ofNat']; omega
  have hUd : getL (U.data.toList.drop 2) = d := by
    rw [← hU]
    show getL (((putL a 1 ++ putL b 1) ++ putL d 8).drop 2) = d
    rw [List.drop_append_of_le_length (by simp [putL_length]), List.drop_of_length_le (by simp [putL_length]), List.nil_append, getL_putL, Nat.mod_eq_of_lt (by omega)]
  have HT : Hid (∀ W, Calls Tryd.prog 8 #[.agg #[.int .i64 t, .int .u64 d, .int .i64 o]] W fun e w' => e = .returned (.string U) ∧ Below W.heap.size W w') := Lib.hid fun W => by
    rw [← hU]; exact text_any t o d a b ha hb (by omega) (by omega) hd W
  have HD : Hid (∀ W, Calls Tryd.prog 9 #[.int .u64 d, .int .i64 8] W fun e w' => e = .returned (.string D) ∧ Below W.heap.size W w') := Lib.hid fun W => by rw [← hD]; exact refPut_any d 8 W hd (by omega) (by omega)
  have HXY : Hid (∀ (W : World) (g : Nat), Row W g 5 [.int .u8 x, .int .u8 y] → (convert 30 9 (.slice (some ⟨g, 0, none⟩) 2 2)).run Tryd.prog W = .ok (.string XY) W) := Lib.hid fun W g h => by
    rw [← hXY]
    refine conv_bytes W _ _ 5 Tryd.underlying30 Tryd.underlying5 Tryd.underlying9 g 0 2 2 (putL a 1 ++ putL b 1) rfl fun i hi => ?_
    rw [Nat.zero_add, h.cell i]
    have e1 : (UInt8.ofNat (a % 256)).toNat = x := by rw [UInt8.toNat_ofNat']; omega
    have e2 : (UInt8.ofNat (b % 256)).toNat = y := by rw [UInt8.toNat_ofNat']; omega
    simp only [putL1, List.cons_append, List.nil_append, List.map_cons, List.map_nil, bv, e1, e2]
  have ad1 : ∀ W : World, (Op.stringOp .add XY D).run Tryd.prog W = .ok (.string U) W := fun W => by
    have h := run_string_add_sum W XY D (P := Tryd.prog) (by rw [← hXY, ← hD]; simp [mkSz, putL_length])
    rw [h, ← hU, ← hXY, ← hD, mkCat]
  have HPU : ∃ (X Y Z E : Int), Hid (∀ W, Calls Tryd.prog 7 #[.string U] W fun e w' => e = .returned (.tuple #[.agg #[.int .i64 X, .int .u64 Y, .int .i64 Z], .int .i64 E]) ∧ Below W.heap.size W w') := by
    by_cases hr : x ≤ 9 ∧ y ≤ 4
    · exact ⟨x, d, y, 0, Lib.hid fun W => by have h := parse_ok U hUsz x y hU0 hU1 hr.1 hr.2 W; rw [hUd] at h; exact h⟩
    · exact ⟨0, 0, 0, 4, Lib.hid fun W => parse_bad U hUsz x y hU0 hU1 (by omega) W⟩
  obtain ⟨X, Y, Z, E, HPU⟩ := HPU
  have HPs : Hid (∀ W, Calls Tryd.prog 7 #[.string s] W fun e w' => e = .returned (.tuple #[.agg #[.int .i64 0, .int .u64 0, .int .i64 0], .int .i64 4]) ∧ Below W.heap.size W w') := Lib.hid fun W => parse_size s hs W
  have hnn := fun W => st_selfN 0 0 0 W
  have hz10 : ((s.size : Int) == 10) = false := by rw [beq_eq_false_iff_ne]; omega
  have hqq := fun W => st_eql X Y Z t d o W
  have h100I : ¬ (100 : Int) < (s.size : Int) := by omega
  have HA : Hid (∀ W, Below w.heap.size w W → Calls Tryd.prog 6 #[] W fun e w' => e = .returned (.bool true) ∧ Below W.heap.size W w') := Lib.hid fun W h => awake21_any W (hG.below h)
  have HB0 := Lib.hid ((Below.refl w.heap.size w).alloc (Nat.le_refl _) (.cells #[.int .i64 t, .int .u64 d, .int .i64 o] 24))
  have HR0 := Lib.hid (Row.new w 24 [.int .i64 t, .int .u64 d, .int .i64 o])
  have hz0 : w.heap.size ≤ (w.alloc (.cells #[.int .i64 t, .int .u64 d, .int .i64 o] 24)).heap.size := HB0.out.size
  clear ha hb ha' hb' hxa hyb hU hD hXY hUsz hU0 hU1 hUd hs h100 hd hG
  go_enter Tryd.func3, Tryd.ntmps3
  go_wp2_with fail
  generalize w.alloc (.cells #[.int .i64 t, .int .u64 d, .int .i64 o] 24) = w0 at HB0 HR0 hz0 ⊢
  have hgP0 : w.heap.size < w0.heap.size := HR0.out.lt
  refine (HA.out _ HB0.out).mono ?_
  rintro e yw1 ⟨rfl, hb1⟩
  have B1 := Lib.hid (HB0.out.trans (hb1.mono hz0))
  have hz1 : w.heap.size ≤ yw1.heap.size := B1.out.size
  have RP1 : Hid (Row yw1 w.heap.size 24 [.int .i64 t, .int .u64 d, .int .i64 o]) := Lib.hid (HR0.out.below hb1 hgP0)
  have hgP1 : w.heap.size < yw1.heap.size := RP1.out.lt
  clear hb1
  go_wp2_with fail
  refine (HPs.out _).mono ?_
  rintro e yw2 ⟨rfl, hb2⟩
  have B2 := Lib.hid (B1.out.trans (hb2.mono hz1))
  have hz2 : w.heap.size ≤ yw2.heap.size := B2.out.size
  have RP2 : Hid (Row yw2 w.heap.size 24 [.int .i64 t, .int .u64 d, .int .i64 o]) := Lib.hid (RP1.out.below hb2 hgP1)
  have hgP2 : w.heap.size < yw2.heap.size := RP2.out.lt
  clear hb2
  have cP2_0 := RP2.out.cell 0
  have cP2_1 := RP2.out.cell 1
  have cP2_2 := RP2.out.cell 2
  simp only [List.getElem?_cons_zero, List.getElem?_cons_succ] at cP2_0 cP2_1 cP2_2
  go_wp2_with fail
  refine (HT.out _).mono ?_
  rintro e yw3 ⟨rfl, hb3⟩
  have B3 := Lib.hid ((B2.out.alloc hz2 _).trans (hb3.mono (by simp; omega)))
  have hz3 : w.heap.size ≤ yw3.heap.size := B3.out.size
  have RP3 : Hid (Row yw3 w.heap.size 24 [.int .i64 t, .int .u64 d, .int .i64 o]) := Lib.hid ((RP2.out.alloc _).below hb3 (by simp; omega))
  have hgP3 : w.heap.size < yw3.heap.size := RP3.out.lt
  have RX3 : Hid (Row yw3 yw2.heap.size 24 [.int .i64 0, .int .u64 0, .int .i64 0]) := Lib.hid ((Row.new yw2 24 [.int .i64 0, .int .u64 0, .int .i64 0]).below hb3 (by simp))
  have hgX3 : yw2.heap.size < yw3.heap.size := RX3.out.lt
  clear hb3
  go_wp2_with fail
  have HRow : Hid (∀ W, Below yw3.heap.size yw3 W → Row W w.heap.size 24 [.int .i64 t, .int .u64 d, .int .i64 o]) := Lib.hid fun W h => RP3.out.below h RP3.out.lt
  refine wp_region_slotsB (m := 14) [] hmx (fun i v W => (i = 7 → (fun v W => ∃ g, v = .slice (some ⟨g, 0, none⟩) 2 2 ∧ Row W g 5 [.int .u8 x, .int .u8 y]) v W) ∧ (i ≠ 7 → v = ([.string U, .pointer (some ⟨w.heap.size, 0, none⟩), .int .i64 t, .int .u8 x, .pointer (some ⟨w.heap.size, 2, none⟩), .int .i64 o, .int .u8 y, undef, .string XY, .pointer (some ⟨w.heap.size, 1, none⟩), .int .u64 d, .string D, .string U, .bool false] : List Value).getD i undef)) (Below yw3.heap.size yw3) (by kernel_rfl) (by kernel_rfl) (fun i v W W' h hb => ⟨fun e => by obtain ⟨g, h1, h2⟩ := h.1 e; exact ⟨g, h1, h2.onwardO hb⟩, h.2⟩) ((Below.refl _ _).drew) ?_ ?_
  · refine ⟨?_, ?_, ?_, ?_, ?_, ?_, ?_, ?_, ?_, ?_, ?_, ?_, ?_, ?_, trivial⟩
    · intro ρ vals W hC hd ht hk hg hf
      have e8 := ht 8
      rw [evalS_old (by kernel_rfl)] at e8
      clear ht hd
      unfold StepOK
      go_simp
      exact Below.refl _ _
    · intro ρ vals W hC hd ht hk hg hf
      have e2 := ht 2
      rw [evalS_old (by kernel_rfl)] at e2
      clear ht hd
      unfold StepOK
      go_simp
      exact Below.refl _ _
    · intro ρ vals W hC hd ht hk hg hf
      have d1 := (hd 1 (by kernel_rfl)).2 (by decide)
      have e63 := ht 63
      rw [evalS_tmp (i := 1) (by kernel_rfl), d1] at e63
      clear ht hd d1
      have q := (HRow.out W hC).cell 0
      simp only [List.getElem?_cons_zero, List.getElem?_cons_succ] at q
      unfold StepOK
      go_simp
      exact Below.refl _ _
    · intro ρ vals W hC hd ht hk hg hf
      have d2 := (hd 2 (by kernel_rfl)).2 (by decide)
      have e64 := ht 64
      rw [evalS_tmp (i := 2) (by kernel_rfl), d2] at e64
      clear ht hd d2
      have g := HWx.out
      unfold StepOK
      go_simp
      exact Below.refl _ _
    · intro ρ vals W hC hd ht hk hg hf
      have e2 := ht 2
      rw [evalS_old (by kernel_rfl)] at e2
      clear ht hd
      unfold StepOK
      go_simp
      exact Below.refl _ _
    · intro ρ vals W hC hd ht hk hg hf
      have d4 := (hd 4 (by kernel_rfl)).2 (by decide)
      have e66 := ht 66
      rw [evalS_tmp (i := 4) (by kernel_rfl), d4] at e66
      clear ht hd d4
      have q := (HRow.out W hC).cell 2
      simp only [List.getElem?_cons_zero, List.getElem?_cons_succ] at q
      unfold StepOK
      go_simp
      exact Below.refl _ _
    · intro ρ vals W hC hd ht hk hg hf
      have d5 := (hd 5 (by kernel_rfl)).2 (by decide)
      have e67 := ht 67
      rw [evalS_tmp (i := 5) (by kernel_rfl), d5] at e67
      clear ht hd d5
      have g := HWy.out
      unfold StepOK
      go_simp
      exact Below.refl _ _
    · intro ρ vals W hC hd ht hk hg hf
      have d3 := (hd 3 (by kernel_rfl)).2 (by decide)
      have e65 := ht 65
      rw [evalS_tmp (i := 3) (by kernel_rfl), d3] at e65
      have d6 := (hd 6 (by kernel_rfl)).2 (by decide)
      have e68 := ht 68
      rw [evalS_tmp (i := 6) (by kernel_rfl), d6] at e68
      clear ht hd d3 d6
      unfold StepOK
      go_simp
      exact ⟨Row.new W 5 [.int .u8 x, .int .u8 y], hC.alloc hC.size _, (Below.refl _ _).alloc (Nat.le_refl _) _⟩
    · intro ρ vals W hC hd ht hk hg hf
      obtain ⟨g7, d7, row7⟩ := (hd 7 (by kernel_rfl)).1 rfl
      have e69 := ht 69
      rw [evalS_tmp (i := 7) (by kernel_rfl), d7] at e69
      clear ht hd d7
      have g := HXY.out W g7 row7
      unfold StepOK
      go_simp
      exact Below.refl _ _
    · intro ρ vals W hC hd ht hk hg hf
      have e2 := ht 2
      rw [evalS_old (by kernel_rfl)] at e2
      clear ht hd
      unfold StepOK
      go_simp
      exact Below.refl _ _
    · intro ρ vals W hC hd ht hk hg hf
      have d9 := (hd 9 (by kernel_rfl)).2 (by decide)
      have e71 := ht 71
      rw [evalS_tmp (i := 9) (by kernel_rfl), d9] at e71
      clear ht hd d9
      have q := (HRow.out W hC).cell 1
      simp only [List.getElem?_cons_zero, List.getElem?_cons_succ] at q
      unfold StepOK
      go_simp
      exact Below.refl _ _
    · intro ρ vals W hC hd ht hk hg hf
      have d10 := (hd 10 (by kernel_rfl)).2 (by decide)
      have e72 := ht 72
      rw [evalS_tmp (i := 10) (by kernel_rfl), d10] at e72
      clear ht hd d10
      unfold StepOK
      go_simp
      refine (HD.out W).mono ?_
      rintro e w' ⟨rfl, hb⟩
      exact ⟨_, rfl, rfl, hC.trans (hb.mono hC.size), hb⟩
    · intro ρ vals W hC hd ht hk hg hf
      have d8 := (hd 8 (by kernel_rfl)).2 (by decide)
      have e70 := ht 70
      rw [evalS_tmp (i := 8) (by kernel_rfl), d8] at e70
      have d11 := (hd 11 (by kernel_rfl)).2 (by decide)
      have e73 := ht 73
      rw [evalS_tmp (i := 11) (by kernel_rfl), d11] at e73
      clear ht hd d8 d11
      unfold StepOK
      go_simp
      exact Below.refl _ _
    · intro ρ vals W hC hd ht hk hg hf
      have d0 := (hd 0 (by kernel_rfl)).2 (by decide)
      have e62 := ht 62
      rw [evalS_tmp (i := 0) (by kernel_rfl), d0] at e62
      have d12 := (hd 12 (by kernel_rfl)).2 (by decide)
      have e74 := ht 74
      rw [evalS_tmp (i := 12) (by kernel_rfl), d12] at e74
      clear ht hd d0 d12
      unfold StepOK
      go_simp
      exact Below.refl _ _
  · intro vals W hC hR
    have r0 : vals 0 = .string U := (hR 0 (by omega)).2 (by decide)
    have r1 : vals 1 = .pointer (some ⟨w.heap.size, 0, none⟩) := (hR 1 (by omega)).2 (by decide)
    have r2 : vals 2 = .int .i64 t := (hR 2 (by omega)).2 (by decide)
    have r3 : vals 3 = .int .u8 x := (hR 3 (by omega)).2 (by decide)
    have r4 : vals 4 = .pointer (some ⟨w.heap.size, 2, none⟩) := (hR 4 (by omega)).2 (by decide)
    have r5 : vals 5 = .int .i64 o := (hR 5 (by omega)).2 (by decide)
    have r6 : vals 6 = .int .u8 y := (hR 6 (by omega)).2 (by decide)
    obtain ⟨g7, r7, row7⟩ := (hR 7 (by omega)).1 rfl
    have r8 : vals 8 = .string XY := (hR 8 (by omega)).2 (by decide)
    have r9 : vals 9 = .pointer (some ⟨w.heap.size, 1, none⟩) := (hR 9 (by omega)).2 (by decide)
    have r10 : vals 10 = .int .u64 d := (hR 10 (by omega)).2 (by decide)
    have r11 : vals 11 = .string D := (hR 11 (by omega)).2 (by decide)
    have r12 : vals 12 = .string U := (hR 12 (by omega)).2 (by decide)
    have r13 : vals 13 = .bool false := (hR 13 (by omega)).2 (by decide)
    clear hR
    simp only [wpOps, List.take, putsS, Act.put, List.setIfInBounds_toArray, List.set_cons_zero, List.set_cons_succ, Nat.reduceAdd, r0, r1, r2, r3, r4, r5, r6, r7, r8, r9, r10, r11, r12, r13]
    clear r0 r1 r2 r3 r4 r5 r6 r7 r8 r9 r10 r11 r12 r13
    have BW := Lib.hid (B3.out.trans (hC.mono hz3))
    have RW := Lib.hid (HRow.out W hC)
    have hzW : w.heap.size ≤ W.heap.size := BW.out.size
    have hgW : w.heap.size < W.heap.size := RW.out.lt
    go_wp2_with fail
    refine (HPU.out _).mono ?_
    rintro e v1 ⟨rfl, hv1⟩
    have BV := Lib.hid (BW.out.trans (hv1.mono hzW))
    have RV := RW.out.below hv1 hgW
    have p0 := RV.cell 0
    have p1 := RV.cell 1
    have p2 := RV.cell 2
    simp only [List.getElem?_cons_zero, List.getElem?_cons_succ] at p0 p1 p2
    have hgV : w.heap.size < v1.heap.size := RV.lt
    have hzV : w.heap.size ≤ v1.heap.size := BV.out.size
    clear hv1 RV
    go_wp2_with fail
    all_goals first
      | (go_ret; exact ⟨rfl, BV.out.alloc hzV _⟩)
      | (exfalso; omega)


set_option maxRecDepth 100000 in
set_option maxHeartbeats 4000000 in
theorem otpTexts_Xi (t : Int) (d : Nat) (o : Int) (s : ByteArray) (ht : -9223372036854775808 ≤ t ∧ t ≤ 9223372036854775807) (hd : d < 18446744073709551616) (ho : -9223372036854775808 ≤ o ∧ o ≤ 9223372036854775807) (h100 : s.size ≤ 100) (w : World) (hG : G w)
    (hs : s.size = 10) (x1 y1 : Nat) (hx : ∀ h : 0 < s.size, (s[0]'h).toNat = x1) (hy : ∀ h : 1 < s.size, (s[1]'h).toNat = y1) (hb1 : 9 < x1) (hin : 0 ≤ t ∧ t ≤ 9 ∧ 0 ≤ o ∧ o ≤ 4) :
    Calls Tryd.prog 3 #[.agg #[.int .i64 t, .int .u64 d, .int .i64 o], .string s] w fun e w' => e = .returned (.bool true) ∧ Below w.heap.size w w' := by
  have hmx : Tryd.prog.follows .mixedOrders = true := by kernel_rfl
  obtain ⟨a, ha⟩ : ∃ a : Nat, IntKind.wrap .u64 t = a := ⟨(t % 18446744073709551616).toNat, by rw [IntKind.wrap_u64]; omega⟩
  obtain ⟨b, hb⟩ : ∃ a : Nat, IntKind.wrap .u64 o = a := ⟨(o % 18446744073709551616).toNat, by rw [IntKind.wrap_u64]; omega⟩
  have ha' := ha
  have hb' := hb
  rw [IntKind.wrap_u64] at ha' hb'
  obtain ⟨x, hxa⟩ : ∃ x : Nat, a % 256 = x := ⟨_, rfl⟩
  obtain ⟨y, hyb⟩ : ∃ x : Nat, b % 256 = x := ⟨_, rfl⟩
  have HWx : Hid (IntKind.wrap .u8 t = (x : Int)) := Lib.hid (by rw [IntKind.wrap_u8]; omega)
  have HWy : Hid (IntKind.wrap .u8 o = (y : Int)) := Lib.hid (by rw [IntKind.wrap_u8]; omega)
  obtain ⟨U, hU⟩ : ∃ U : ByteArray, (⟨(putL a 1 ++ putL b 1 ++ putL d 8).toArray⟩ : ByteArray) = U := ⟨_, rfl⟩
  obtain ⟨D, hD⟩ : ∃ U : ByteArray, (⟨(putL d 8).toArray⟩ : ByteArray) = U := ⟨_, rfl⟩
  obtain ⟨XY, hXY⟩ : ∃ U : ByteArray, (⟨(putL a 1 ++ putL b 1).toArray⟩ : ByteArray) = U := ⟨_, rfl⟩
  have hUsz : U.size = 10 := by rw [← hU, mkSz, List.length_append, List.length_append, putL_length, putL_length, putL_length]
  have hU0 : ∀ h : 0 < U.size, (U[0]'h).toNat = x := fun h => by subst hU; show (UInt8.ofNat (a % 256)).toNat = x; rw [UInt8.toNat_ofNat']; omega
  have hU1 : ∀ h : 1 < U.size, (U[1]'h).toNat = y := fun h => by subst hU; show (UInt8.ofNat (b % 256)).toNat = y; rw [UInt8.toNat_ofNat']; omega
  have hUd : getL (U.data.toList.drop 2) = d := by
    rw [← hU]
    show getL (((putL a 1 ++ putL b 1) ++ putL d 8).drop 2) = d
    rw [List.drop_append_of_le_length (by simp [putL_length]), List.drop_of_length_le (by simp [putL_length]), List.nil_append, getL_putL, Nat.mod_eq_of_lt (by omega)]
  have HT : Hid (∀ W, Calls Tryd.prog 8 #[.agg #[.int .i64 t, .int .u64 d, .int .i64 o]] W fun e w' => e = .returned (.string U) ∧ Below W.heap.size W w') := Lib.hid fun W => by
    rw [← hU]; exact text_any t o d a b ha hb (by omega) (by omega) hd W
  have HD : Hid (∀ W, Calls Tryd.prog 9 #[.int .u64 d, .int .i64 8] W fun e w' => e = .returned (.string D) ∧ Below W.heap.size W w') := Lib.hid fun W => by rw [← hD]; exact refPut_any d 8 W hd (by omega) (by omega)
  have HXY : Hid (∀ (W : World) (g : Nat), Row W g 5 [.int .u8 x, .int .u8 y] → (convert 30 9 (.slice (some ⟨g, 0, none⟩) 2 2)).run Tryd.prog W = .ok (.string XY) W) := Lib.hid fun W g h => by
    rw [← hXY]
    refine conv_bytes W _ _ 5 Tryd.underlying30 Tryd.underlying5 Tryd.underlying9 g 0 2 2 (putL a 1 ++ putL b 1) rfl fun i hi => ?_
    rw [Nat.zero_add, h.cell i]
    have e1 : (UInt8.ofNat (a % 256)).toNat = x := by rw [UInt8.toNat_ofNat']; omega
    have e2 : (UInt8.ofNat (b % 256)).toNat = y := by rw [UInt8.toNat_ofNat']; omega
    simp only [putL1, List.cons_append, List.nil_append, List.map_cons, List.map_nil, bv, e1, e2]
  have ad1 : ∀ W : World, (Op.stringOp .add XY D).run Tryd.prog W = .ok (.string U) W := fun W => by
    have h := run_string_add_sum W XY D (P := Tryd.prog) (by rw [← hXY, ← hD]; simp [mkSz, putL_length])
    rw [h, ← hU, ← hXY, ← hD, mkCat]
  have HPU : Hid (∀ W, Calls Tryd.prog 7 #[.string U] W fun e w' => e = .returned (.tuple #[.agg #[.int .i64 t, .int .u64 d, .int .i64 o], .int .i64 0]) ∧ Below W.heap.size W w') := Lib.hid fun W => by
    have h := parse_ok U hUsz x y hU0 hU1 (by omega) (by omega) W
    rw [hUd, show (x : Int) = t by omega, show (y : Int) = o by omega] at h
    exact h
  have HPs : Hid (∀ W, Calls Tryd.prog 7 #[.string s] W fun e w' => e = .returned (.tuple #[.agg #[.int .i64 0, .int .u64 0, .int .i64 0], .int .i64 4]) ∧ Below W.heap.size W w') := Lib.hid fun W => parse_bad s hs x1 y1 hx hy (by omega) W
  have hnn := fun W => st_selfN 0 0 0 W
  have h0s : 0 < s.size := by omega
  have h1s : 1 < s.size := by omega
  have g0 := hx h0s
  have g1 := hy h1s
  have h1I : (1 : Int) < (s.size : Int) := by omega
  have hz10 : ((s.size : Int) == 10) = true := by rw [beq_iff_eq]; omega
  have hb1I : ¬ (x1 : Int) ≤ 9 := by omega
  have i1 : ¬ t < 0 := by omega
  have i2 : ¬ 9 < t := by omega
  have i3 : ¬ o < 0 := by omega
  have i4 : ¬ 4 < o := by omega
  have hqq := fun W => st_self t d o W
  have h100I : ¬ (100 : Int) < (s.size : Int) := by omega
  have HA : Hid (∀ W, Below w.heap.size w W → Calls Tryd.prog 6 #[] W fun e w' => e = .returned (.bool true) ∧ Below W.heap.size W w') := Lib.hid fun W h => awake21_any W (hG.below h)
  have HB0 := Lib.hid ((Below.refl w.heap.size w).alloc (Nat.le_refl _) (.cells #[.int .i64 t, .int .u64 d, .int .i64 o] 24))
  have HR0 := Lib.hid (Row.new w 24 [.int .i64 t, .int .u64 d, .int .i64 o])
  have hz0 : w.heap.size ≤ (w.alloc (.cells #[.int .i64 t, .int .u64 d, .int .i64 o] 24)).heap.size := HB0.out.size
  clear ha hb ha' hb' hxa hyb hU hD hXY hUsz hU0 hU1 hUd hs h100 hd hG hx hy hb1
  go_enter Tryd.func3, Tryd.ntmps3
  go_wp2_with fail
  generalize w.alloc (.cells #[.int .i64 t, .int .u64 d, .int .i64 o] 24) = w0 at HB0 HR0 hz0 ⊢
  have hgP0 : w.heap.size < w0.heap.size := HR0.out.lt
  refine (HA.out _ HB0.out).mono ?_
  rintro e yw1 ⟨rfl, hb1⟩
  have B1 := Lib.hid (HB0.out.trans (hb1.mono hz0))
  have hz1 : w.heap.size ≤ yw1.heap.size := B1.out.size
  have RP1 : Hid (Row yw1 w.heap.size 24 [.int .i64 t, .int .u64 d, .int .i64 o]) := Lib.hid (HR0.out.below hb1 hgP0)
  have hgP1 : w.heap.size < yw1.heap.size := RP1.out.lt
  clear hb1
  go_wp2_with fail
  refine (HPs.out _).mono ?_
  rintro e yw2 ⟨rfl, hb2⟩
  have B2 := Lib.hid (B1.out.trans (hb2.mono hz1))
  have hz2 : w.heap.size ≤ yw2.heap.size := B2.out.size
  have RP2 : Hid (Row yw2 w.heap.size 24 [.int .i64 t, .int .u64 d, .int .i64 o]) := Lib.hid (RP1.out.below hb2 hgP1)
  have hgP2 : w.heap.size < yw2.heap.size := RP2.out.lt
  clear hb2
  have cP2_0 := RP2.out.cell 0
  have cP2_1 := RP2.out.cell 1
  have cP2_2 := RP2.out.cell 2
  simp only [List.getElem?_cons_zero, List.getElem?_cons_succ] at cP2_0 cP2_1 cP2_2
  go_wp2_with fail
  refine (HT.out _).mono ?_
  rintro e yw3 ⟨rfl, hb3⟩
  have B3 := Lib.hid ((B2.out.alloc hz2 _).trans (hb3.mono (by simp; omega)))
  have hz3 : w.heap.size ≤ yw3.heap.size := B3.out.size
  have RP3 : Hid (Row yw3 w.heap.size 24 [.int .i64 t, .int .u64 d, .int .i64 o]) := Lib.hid ((RP2.out.alloc _).below hb3 (by simp; omega))
  have hgP3 : w.heap.size < yw3.heap.size := RP3.out.lt
  have RX3 : Hid (Row yw3 yw2.heap.size 24 [.int .i64 0, .int .u64 0, .int .i64 0]) := Lib.hid ((Row.new yw2 24 [.int .i64 0, .int .u64 0, .int .i64 0]).below hb3 (by simp))
  have hgX3 : yw2.heap.size < yw3.heap.size := RX3.out.lt
  clear hb3
  go_wp2_with fail
  have HRow : Hid (∀ W, Below yw3.heap.size yw3 W → Row W w.heap.size 24 [.int .i64 t, .int .u64 d, .int .i64 o]) := Lib.hid fun W h => RP3.out.below h RP3.out.lt
  refine wp_region_slotsB (m := 14) [] hmx (fun i v W => (i = 7 → (fun v W => ∃ g, v = .slice (some ⟨g, 0, none⟩) 2 2 ∧ Row W g 5 [.int .u8 x, .int .u8 y]) v W) ∧ (i ≠ 7 → v = ([.string U, .pointer (some ⟨w.heap.size, 0, none⟩), .int .i64 t, .int .u8 x, .pointer (some ⟨w.heap.size, 2, none⟩), .int .i64 o, .int .u8 y, undef, .string XY, .pointer (some ⟨w.heap.size, 1, none⟩), .int .u64 d, .string D, .string U, .bool false] : List Value).getD i undef)) (Below yw3.heap.size yw3) (by kernel_rfl) (by kernel_rfl) (fun i v W W' h hb => ⟨fun e => by obtain ⟨g, h1, h2⟩ := h.1 e; exact ⟨g, h1, h2.onwardO hb⟩, h.2⟩) ((Below.refl _ _).drew) ?_ ?_
  · refine ⟨?_, ?_, ?_, ?_, ?_, ?_, ?_, ?_, ?_, ?_, ?_, ?_, ?_, ?_, trivial⟩
    · intro ρ vals W hC hd ht hk hg hf
      have e8 := ht 8
      rw [evalS_old (by kernel_rfl)] at e8
      clear ht hd
      unfold StepOK
      go_simp
      exact Below.refl _ _
    · intro ρ vals W hC hd ht hk hg hf
      have e2 := ht 2
      rw [evalS_old (by kernel_rfl)] at e2
      clear ht hd
      unfold StepOK
      go_simp
      exact Below.refl _ _
    · intro ρ vals W hC hd ht hk hg hf
      have d1 := (hd 1 (by kernel_rfl)).2 (by decide)
      have e63 := ht 63
      rw [evalS_tmp (i := 1) (by kernel_rfl), d1] at e63
      clear ht hd d1
      have q := (HRow.out W hC).cell 0
      simp only [List.getElem?_cons_zero, List.getElem?_cons_succ] at q
      unfold StepOK
      go_simp
      exact Below.refl _ _
    · intro ρ vals W hC hd ht hk hg hf
      have d2 := (hd 2 (by kernel_rfl)).2 (by decide)
      have e64 := ht 64
      rw [evalS_tmp (i := 2) (by kernel_rfl), d2] at e64
      clear ht hd d2
      have g := HWx.out
      unfold StepOK
      go_simp
      exact Below.refl _ _
    · intro ρ vals W hC hd ht hk hg hf
      have e2 := ht 2
      rw [evalS_old (by kernel_rfl)] at e2
      clear ht hd
      unfold StepOK
      go_simp
      exact Below.refl _ _
    · intro ρ vals W hC hd ht hk hg hf
      have d4 := (hd 4 (by kernel_rfl)).2 (by decide)
      have e66 := ht 66
      rw [evalS_tmp (i := 4) (by kernel_rfl), d4] at e66
      clear ht hd d4
      have q := (HRow.out W hC).cell 2
      simp only [List.getElem?_cons_zero, List.getElem?_cons_succ] at q
      unfold StepOK
      go_simp
      exact Below.refl _ _
    · intro ρ vals W hC hd ht hk hg hf
      have d5 := (hd 5 (by kernel_rfl)).2 (by decide)
      have e67 := ht 67
      rw [evalS_tmp (i := 5) (by kernel_rfl), d5] at e67
      clear ht hd d5
      have g := HWy.out
      unfold StepOK
      go_simp
      exact Below.refl _ _
    · intro ρ vals W hC hd ht hk hg hf
      have d3 := (hd 3 (by kernel_rfl)).2 (by decide)
      have e65 := ht 65
      rw [evalS_tmp (i := 3) (by kernel_rfl), d3] at e65
      have d6 := (hd 6 (by kernel_rfl)).2 (by decide)
      have e68 := ht 68
      rw [evalS_tmp (i := 6) (by kernel_rfl), d6] at e68
      clear ht hd d3 d6
      unfold StepOK
      go_simp
      exact ⟨Row.new W 5 [.int .u8 x, .int .u8 y], hC.alloc hC.size _, (Below.refl _ _).alloc (Nat.le_refl _) _⟩
    · intro ρ vals W hC hd ht hk hg hf
      obtain ⟨g7, d7, row7⟩ := (hd 7 (by kernel_rfl)).1 rfl
      have e69 := ht 69
      rw [evalS_tmp (i := 7) (by kernel_rfl), d7] at e69
      clear ht hd d7
      have g := HXY.out W g7 row7
      unfold StepOK
      go_simp
      exact Below.refl _ _
    · intro ρ vals W hC hd ht hk hg hf
      have e2 := ht 2
      rw [evalS_old (by kernel_rfl)] at e2
      clear ht hd
      unfold StepOK
      go_simp
      exact Below.refl _ _
    · intro ρ vals W hC hd ht hk hg hf
      have d9 := (hd 9 (by kernel_rfl)).2 (by decide)
      have e71 := ht 71
      rw [evalS_tmp (i := 9) (by kernel_rfl), d9] at e71
      clear ht hd d9
      have q := (HRow.out W hC).cell 1
      simp only [List.getElem?_cons_zero, List.getElem?_cons_succ] at q
      unfold StepOK
      go_simp
      exact Below.refl _ _
    · intro ρ vals W hC hd ht hk hg hf
      have d10 := (hd 10 (by kernel_rfl)).2 (by decide)
      have e72 := ht 72
      rw [evalS_tmp (i := 10) (by kernel_rfl), d10] at e72
      clear ht hd d10
      unfold StepOK
      go_simp
      refine (HD.out W).mono ?_
      rintro e w' ⟨rfl, hb⟩
      exact ⟨_, rfl, rfl, hC.trans (hb.mono hC.size), hb⟩
    · intro ρ vals W hC hd ht hk hg hf
      have d8 := (hd 8 (by kernel_rfl)).2 (by decide)
      have e70 := ht 70
      rw [evalS_tmp (i := 8) (by kernel_rfl), d8] at e70
      have d11 := (hd 11 (by kernel_rfl)).2 (by decide)
      have e73 := ht 73
      rw [evalS_tmp (i := 11) (by kernel_rfl), d11] at e73
      clear ht hd d8 d11
      unfold StepOK
      go_simp
      exact Below.refl _ _
    · intro ρ vals W hC hd ht hk hg hf
      have d0 := (hd 0 (by kernel_rfl)).2 (by decide)
      have e62 := ht 62
      rw [evalS_tmp (i := 0) (by kernel_rfl), d0] at e62
      have d12 := (hd 12 (by kernel_rfl)).2 (by decide)
      have e74 := ht 74
      rw [evalS_tmp (i := 12) (by kernel_rfl), d12] at e74
      clear ht hd d0 d12
      unfold StepOK
      go_simp
      exact Below.refl _ _
  · intro vals W hC hR
    have r0 : vals 0 = .string U := (hR 0 (by omega)).2 (by decide)
    have r1 : vals 1 = .pointer (some ⟨w.heap.size, 0, none⟩) := (hR 1 (by omega)).2 (by decide)
    have r2 : vals 2 = .int .i64 t := (hR 2 (by omega)).2 (by decide)
    have r3 : vals 3 = .int .u8 x := (hR 3 (by omega)).2 (by decide)
    have r4 : vals 4 = .pointer (some ⟨w.heap.size, 2, none⟩) := (hR 4 (by omega)).2 (by decide)
    have r5 : vals 5 = .int .i64 o := (hR 5 (by omega)).2 (by decide)
    have r6 : vals 6 = .int .u8 y := (hR 6 (by omega)).2 (by decide)
    obtain ⟨g7, r7, row7⟩ := (hR 7 (by omega)).1 rfl
    have r8 : vals 8 = .string XY := (hR 8 (by omega)).2 (by decide)
    have r9 : vals 9 = .pointer (some ⟨w.heap.size, 1, none⟩) := (hR 9 (by omega)).2 (by decide)
    have r10 : vals 10 = .int .u64 d := (hR 10 (by omega)).2 (by decide)
    have r11 : vals 11 = .string D := (hR 11 (by omega)).2 (by decide)
    have r12 : vals 12 = .string U := (hR 12 (by omega)).2 (by decide)
    have r13 : vals 13 = .bool false := (hR 13 (by omega)).2 (by decide)
    clear hR
    simp only [wpOps, List.take, putsS, Act.put, List.setIfInBounds_toArray, List.set_cons_zero, List.set_cons_succ, Nat.reduceAdd, r0, r1, r2, r3, r4, r5, r6, r7, r8, r9, r10, r11, r12, r13]
    clear r0 r1 r2 r3 r4 r5 r6 r7 r8 r9 r10 r11 r12 r13
    have BW := Lib.hid (B3.out.trans (hC.mono hz3))
    have RW := Lib.hid (HRow.out W hC)
    have hzW : w.heap.size ≤ W.heap.size := BW.out.size
    have hgW : w.heap.size < W.heap.size := RW.out.lt
    go_wp2_with fail
    refine (HPU.out _).mono ?_
    rintro e v1 ⟨rfl, hv1⟩
    have BV := Lib.hid (BW.out.trans (hv1.mono hzW))
    have RV := RW.out.below hv1 hgW
    have p0 := RV.cell 0
    have p1 := RV.cell 1
    have p2 := RV.cell 2
    simp only [List.getElem?_cons_zero, List.getElem?_cons_succ] at p0 p1 p2
    have hgV : w.heap.size < v1.heap.size := RV.lt
    have hzV : w.heap.size ≤ v1.heap.size := BV.out.size
    clear hv1 RV
    go_wp2_with fail
    go_ret
    exact ⟨rfl, BV.out.alloc hzV _⟩


set_option maxRecDepth 100000 in
set_option maxHeartbeats 4000000 in
theorem otpTexts_Xo (t : Int) (d : Nat) (o : Int) (s : ByteArray) (ht : -9223372036854775808 ≤ t ∧ t ≤ 9223372036854775807) (hd : d < 18446744073709551616) (ho : -9223372036854775808 ≤ o ∧ o ≤ 9223372036854775807) (h100 : s.size ≤ 100) (w : World) (hG : G w)
    (hs : s.size = 10) (x1 y1 : Nat) (hx : ∀ h : 0 < s.size, (s[0]'h).toNat = x1) (hy : ∀ h : 1 < s.size, (s[1]'h).toNat = y1) (hb1 : 9 < x1) (hin : ¬ (0 ≤ t ∧ t ≤ 9 ∧ 0 ≤ o ∧ o ≤ 4)) :
    Calls Tryd.prog 3 #[.agg #[.int .i64 t, .int .u64 d, .int .i64 o], .string s] w fun e w' => e = .returned (.bool true) ∧ Below w.heap.size w w' := by
  have hmx : Tryd.prog.follows .mixedOrders = true := by kernel_rfl
  obtain ⟨a, ha⟩ : ∃ a : Nat, IntKind.wrap .u64 t = a := ⟨(t % 18446744073709551616).toNat, by rw [IntKind.wrap_u64]; omega⟩
  obtain ⟨b, hb⟩ : ∃ a : Nat, IntKind.wrap .u64 o = a := ⟨(o % 18446744073709551616).toNat, by rw [IntKind.wrap_u64]; omega⟩
  have ha' := ha
  have hb' := hb
  rw [IntKind.wrap_u64] at ha' hb'
  obtain ⟨x, hxa⟩ : ∃ x : Nat, a % 256 = x := ⟨_, rfl⟩
  obtain ⟨y, hyb⟩ : ∃ x : Nat, b % 256 = x := ⟨_, rfl⟩
  have HWx : Hid (IntKind.wrap .u8 t = (x : Int)) := Lib.hid (by rw [IntKind.wrap_u8]; omega)
  have HWy : Hid (IntKind.wrap .u8 o = (y : Int)) := Lib.hid (by rw [IntKind.wrap_u8]; omega)
  obtain ⟨U, hU⟩ : ∃ U : ByteArray, (⟨(putL a 1 ++ putL b 1 ++ putL d 8).toArray⟩ : ByteArray) = U := ⟨_, rfl⟩
  obtain ⟨D, hD⟩ : ∃ U : ByteArray, (⟨(putL d 8).toArray⟩ : ByteArray) = U := ⟨_, rfl⟩
  obtain ⟨XY, hXY⟩ : ∃ U : ByteArray, (⟨(putL a 1 ++ putL b 1).toArray⟩ : ByteArray) = U := ⟨_, rfl⟩
  have hUsz : U.size = 10 := by rw [← hU, mkSz, List.length_append, List.length_append, putL_length, putL_length, putL_length]
  have hU0 : ∀ h : 0 < U.size, (U[0]'h).toNat = x := fun h => by subst hU; show (UInt8.ofNat (a % 256)).toNat = x; rw [UInt8.toNat_ofNat']; omega
  have hU1 : ∀ h : 1 < U.size, (U[1]'h).toNat = y := fun h => by subst hU; show (UInt8.ofNat (b % 256)).toNat = y; rw [UInt8.toNat_ofNat']; omega
  have hUd : getL (U.data.toList.drop 2) = d := by
    rw [← hU]
    show getL (((putL a 1 ++ putL b 1) ++ putL d 8).drop 2) = d
    rw [List.drop_append_of_le_length (by simp [putL_length]), List.drop_of_length_le (by simp [putL_length]), List.nil_append, getL_putL, Nat.mod_eq_of_lt (by omega)]
  have HT : Hid (∀ W, Calls Tryd.prog 8 #[.agg #[.int .i64 t, .int .u64 d, .int .i64 o]] W fun e w' => e = .returned (.string U) ∧ Below W.heap.size W w') := Lib.hid fun W => by
    rw [← hU]; exact text_any t o d a b ha hb (by omega) (by omega) hd W
  have HD : Hid (∀ W, Calls Tryd.prog 9 #[.int .u64 d, .int .i64 8] W fun e w' => e = .returned (.string D) ∧ Below W.heap.size W w') := Lib.hid fun W => by rw [← hD]; exact refPut_any d 8 W hd (by omega) (by omega)
  have HXY : Hid (∀ (W : World) (g : Nat), Row W g 5 [.int .u8 x, .int .u8 y] → (convert 30 9 (.slice (some ⟨g, 0, none⟩) 2 2)).run Tryd.prog W = .ok (.string XY) W) := Lib.hid fun W g h => by
    rw [← hXY]
    refine conv_bytes W _ _ 5 Tryd.underlying30 Tryd.underlying5 Tryd.underlying9 g 0 2 2 (putL a 1 ++ putL b 1) rfl fun i hi => ?_
    rw [Nat.zero_add, h.cell i]
    have e1 : (UInt8.ofNat (a % 256)).toNat = x := by rw [UInt8.toNat_ofNat']; omega
    have e2 : (UInt8.ofNat (b % 256)).toNat = y := by rw [UInt8.toNat_ofNat']; omega
    simp only [putL1, List.cons_append, List.nil_append, List.map_cons, List.map_nil, bv, e1, e2]
  have ad1 : ∀ W : World, (Op.stringOp .add XY D).run Tryd.prog W = .ok (.string U) W := fun W => by
    have h := run_string_add_sum W XY D (P := Tryd.prog) (by rw [← hXY, ← hD]; simp [mkSz, putL_length])
    rw [h, ← hU, ← hXY, ← hD, mkCat]
  have HPU : ∃ (X Y Z E : Int), Hid (∀ W, Calls Tryd.prog 7 #[.string U] W fun e w' => e = .returned (.tuple #[.agg #[.int .i64 X, .int .u64 Y, .int .i64 Z], .int .i64 E]) ∧ Below W.heap.size W w') := by
    by_cases hr : x ≤ 9 ∧ y ≤ 4
    · exact ⟨x, d, y, 0, Lib.hid fun W => by have h := parse_ok U hUsz x y hU0 hU1 hr.1 hr.2 W; rw [hUd] at h; exact h⟩
    · exact ⟨0, 0, 0, 4, Lib.hid fun W => parse_bad U hUsz x y hU0 hU1 (by omega) W⟩
  obtain ⟨X, Y, Z, E, HPU⟩ := HPU
  have HPs : Hid (∀ W, Calls Tryd.prog 7 #[.string s] W fun e w' => e = .returned (.tuple #[.agg #[.int .i64 0, .int .u64 0, .int .i64 0], .int .i64 4]) ∧ Below W.heap.size W w') := Lib.hid fun W => parse_bad s hs x1 y1 hx hy (by omega) W
  have hnn := fun W => st_selfN 0 0 0 W
  have h0s : 0 < s.size := by omega
  have h1s : 1 < s.size := by omega
  have g0 := hx h0s
  have g1 := hy h1s
  have h1I : (1 : Int) < (s.size : Int) := by omega
  have hz10 : ((s.size : Int) == 10) = true := by rw [beq_iff_eq]; omega
  have hb1I : ¬ (x1 : Int) ≤ 9 := by omega
  have hqq := fun W => st_eql X Y Z t d o W
  have h100I : ¬ (100 : Int) < (s.size : Int) := by omega
  have HA : Hid (∀ W, Below w.heap.size w W → Calls Tryd.prog 6 #[] W fun e w' => e = .returned (.bool true) ∧ Below W.heap.size W w') := Lib.hid fun W h => awake21_any W (hG.below h)
  have HB0 := Lib.hid ((Below.refl w.heap.size w).alloc (Nat.le_refl _) (.cells #[.int .i64 t, .int .u64 d, .int .i64 o] 24))
  have HR0 := Lib.hid (Row.new w 24 [.int .i64 t, .int .u64 d, .int .i64 o])
  have hz0 : w.heap.size ≤ (w.alloc (.cells #[.int .i64 t, .int .u64 d, .int .i64 o] 24)).heap.size := HB0.out.size
  clear ha hb ha' hb' hxa hyb hU hD hXY hUsz hU0 hU1 hUd hs h100 hd hG hx hy hb1
  go_enter Tryd.func3, Tryd.ntmps3
  go_wp2_with fail
  generalize w.alloc (.cells #[.int .i64 t, .int .u64 d, .int .i64 o] 24) = w0 at HB0 HR0 hz0 ⊢
  have hgP0 : w.heap.size < w0.heap.size := HR0.out.lt
  refine (HA.out _ HB0.out).mono ?_
  rintro e yw1 ⟨rfl, hb1⟩
  have B1 := Lib.hid (HB0.out.trans (hb1.mono hz0))
  have hz1 : w.heap.size ≤ yw1.heap.size := B1.out.size
  have RP1 : Hid (Row yw1 w.heap.size 24 [.int .i64 t, .int .u64 d, .int .i64 o]) := Lib.hid (HR0.out.below hb1 hgP0)
  have hgP1 : w.heap.size < yw1.heap.size := RP1.out.lt
  clear hb1
  go_wp2_with fail
  refine (HPs.out _).mono ?_
  rintro e yw2 ⟨rfl, hb2⟩
  have B2 := Lib.hid (B1.out.trans (hb2.mono hz1))
  have hz2 : w.heap.size ≤ yw2.heap.size := B2.out.size
  have RP2 : Hid (Row yw2 w.heap.size 24 [.int .i64 t, .int .u64 d, .int .i64 o]) := Lib.hid (RP1.out.below hb2 hgP1)
  have hgP2 : w.heap.size < yw2.heap.size := RP2.out.lt
  clear hb2
  have cP2_0 := RP2.out.cell 0
  have cP2_1 := RP2.out.cell 1
  have cP2_2 := RP2.out.cell 2
  simp only [List.getElem?_cons_zero, List.getElem?_cons_succ] at cP2_0 cP2_1 cP2_2
  go_wp2_with fail
  refine (HT.out _).mono ?_
  rintro e yw3 ⟨rfl, hb3⟩
  have B3 := Lib.hid ((B2.out.alloc hz2 _).trans (hb3.mono (by simp; omega)))
  have hz3 : w.heap.size ≤ yw3.heap.size := B3.out.size
  have RP3 : Hid (Row yw3 w.heap.size 24 [.int .i64 t, .int .u64 d, .int .i64 o]) := Lib.hid ((RP2.out.alloc _).below hb3 (by simp; omega))
  have hgP3 : w.heap.size < yw3.heap.size := RP3.out.lt
  have RX3 : Hid (Row yw3 yw2.heap.size 24 [.int .i64 0, .int .u64 0, .int .i64 0]) := Lib.hid ((Row.new yw2 24 [.int .i64 0, .int .u64 0, .int .i64 0]).below hb3 (by simp))
  have hgX3 : yw2.heap.size < yw3.heap.size := RX3.out.lt
  clear hb3
  go_wp2_with fail
  have HRow : Hid (∀ W, Below yw3.heap.size yw3 W → Row W w.heap.size 24 [.int .i64 t, .int .u64 d, .int .i64 o]) := Lib.hid fun W h => RP3.out.below h RP3.out.lt
  refine wp_region_slotsB (m := 14) [] hmx (fun i v W => (i = 7 → (fun v W => ∃ g, v = .slice (some ⟨g, 0, none⟩) 2 2 ∧ Row W g 5 [.int .u8 x, .int .u8 y]) v W) ∧ (i ≠ 7 → v = ([.string U, .pointer (some ⟨w.heap.size, 0, none⟩), .int .i64 t, .int .u8 x, .pointer (some ⟨w.heap.size, 2, none⟩), .int .i64 o, .int .u8 y, undef, .string XY, .pointer (some ⟨w.heap.size, 1, none⟩), .int .u64 d, .string D, .string U, .bool false] : List Value).getD i undef)) (Below yw3.heap.size yw3) (by kernel_rfl) (by kernel_rfl) (fun i v W W' h hb => ⟨fun e => by obtain ⟨g, h1, h2⟩ := h.1 e; exact ⟨g, h1, h2.onwardO hb⟩, h.2⟩) ((Below.refl _ _).drew) ?_ ?_
  · refine ⟨?_, ?_, ?_, ?_, ?_, ?_, ?_, ?_, ?_, ?_, ?_, ?_, ?_, ?_, trivial⟩
    · intro ρ vals W hC hd ht hk hg hf
      have e8 := ht 8
      rw [evalS_old (by kernel_rfl)] at e8
      clear ht hd
      unfold StepOK
      go_simp
      exact Below.refl _ _
    · intro ρ vals W hC hd ht hk hg hf
      have e2 := ht 2
      rw [evalS_old (by kernel_rfl)] at e2
      clear ht hd
      unfold StepOK
      go_simp
      exact Below.refl _ _
    · intro ρ vals W hC hd ht hk hg hf
      have d1 := (hd 1 (by kernel_rfl)).2 (by decide)
      have e63 := ht 63
      rw [evalS_tmp (i := 1) (by kernel_rfl), d1] at e63
      clear ht hd d1
      have q := (HRow.out W hC).cell 0
      simp only [List.getElem?_cons_zero, List.getElem?_cons_succ] at q
      unfold StepOK
      go_simp
      exact Below.refl _ _
    · intro ρ vals W hC hd ht hk hg hf
      have d2 := (hd 2 (by kernel_rfl)).2 (by decide)
      have e64 := ht 64
      rw [evalS_tmp (i := 2) (by kernel_rfl), d2] at e64
      clear ht hd d2
      have g := HWx.out
      unfold StepOK
      go_simp
      exact Below.refl _ _
    · intro ρ vals W hC hd ht hk hg hf
      have e2 := ht 2
      rw [evalS_old (by kernel_rfl)] at e2
      clear ht hd
      unfold StepOK
      go_simp
      exact Below.refl _ _
    · intro ρ vals W hC hd ht hk hg hf
      have d4 := (hd 4 (by kernel_rfl)).2 (by decide)
      have e66 := ht 66
      rw [evalS_tmp (i := 4) (by kernel_rfl), d4] at e66
      clear ht hd d4
      have q := (HRow.out W hC).cell 2
      simp only [List.getElem?_cons_zero, List.getElem?_cons_succ] at q
      unfold StepOK
      go_simp
      exact Below.refl _ _
    · intro ρ vals W hC hd ht hk hg hf
      have d5 := (hd 5 (by kernel_rfl)).2 (by decide)
      have e67 := ht 67
      rw [evalS_tmp (i := 5) (by kernel_rfl), d5] at e67
      clear ht hd d5
      have g := HWy.out
      unfold StepOK
      go_simp
      exact Below.refl _ _
    · intro ρ vals W hC hd ht hk hg hf
      have d3 := (hd 3 (by kernel_rfl)).2 (by decide)
      have e65 := ht 65
      rw [evalS_tmp (i := 3) (by kernel_rfl), d3] at e65
      have d6 := (hd 6 (by kernel_rfl)).2 (by decide)
      have e68 := ht 68
      rw [evalS_tmp (i := 6) (by kernel_rfl), d6] at e68
      clear ht hd d3 d6
      unfold StepOK
      go_simp
      exact ⟨Row.new W 5 [.int .u8 x, .int .u8 y], hC.alloc hC.size _, (Below.refl _ _).alloc (Nat.le_refl _) _⟩
    · intro ρ vals W hC hd ht hk hg hf
      obtain ⟨g7, d7, row7⟩ := (hd 7 (by kernel_rfl)).1 rfl
      have e69 := ht 69
      rw [evalS_tmp (i := 7) (by kernel_rfl), d7] at e69
      clear ht hd d7
      have g := HXY.out W g7 row7
      unfold StepOK
      go_simp
      exact Below.refl _ _
    · intro ρ vals W hC hd ht hk hg hf
      have e2 := ht 2
      rw [evalS_old (by kernel_rfl)] at e2
      clear ht hd
      unfold StepOK
      go_simp
      exact Below.refl _ _
    · intro ρ vals W hC hd ht hk hg hf
      have d9 := (hd 9 (by kernel_rfl)).2 (by decide)
      have e71 := ht 71
      rw [evalS_tmp (i := 9) (by kernel_rfl), d9] at e71
      clear ht hd d9
      have q := (HRow.out W hC).cell 1
      simp only [List.getElem?_cons_zero, List.getElem?_cons_succ] at q
      unfold StepOK
      go_simp
      exact Below.refl _ _
    · intro ρ vals W hC hd ht hk hg hf
      have d10 := (hd 10 (by kernel_rfl)).2 (by decide)
      have e72 := ht 72
      rw [evalS_tmp (i := 10) (by kernel_rfl), d10] at e72
      clear ht hd d10
      unfold StepOK
      go_simp
      refine (HD.out W).mono ?_
      rintro e w' ⟨rfl, hb⟩
      exact ⟨_, rfl, rfl, hC.trans (hb.mono hC.size), hb⟩
    · intro ρ vals W hC hd ht hk hg hf
      have d8 := (hd 8 (by kernel_rfl)).2 (by decide)
      have e70 := ht 70
      rw [evalS_tmp (i := 8) (by kernel_rfl), d8] at e70
      have d11 := (hd 11 (by kernel_rfl)).2 (by decide)
      have e73 := ht 73
      rw [evalS_tmp (i := 11) (by kernel_rfl), d11] at e73
      clear ht hd d8 d11
      unfold StepOK
      go_simp
      exact Below.refl _ _
    · intro ρ vals W hC hd ht hk hg hf
      have d0 := (hd 0 (by kernel_rfl)).2 (by decide)
      have e62 := ht 62
      rw [evalS_tmp (i := 0) (by kernel_rfl), d0] at e62
      have d12 := (hd 12 (by kernel_rfl)).2 (by decide)
      have e74 := ht 74
      rw [evalS_tmp (i := 12) (by kernel_rfl), d12] at e74
      clear ht hd d0 d12
      unfold StepOK
      go_simp
      exact Below.refl _ _
  · intro vals W hC hR
    have r0 : vals 0 = .string U := (hR 0 (by omega)).2 (by decide)
    have r1 : vals 1 = .pointer (some ⟨w.heap.size, 0, none⟩) := (hR 1 (by omega)).2 (by decide)
    have r2 : vals 2 = .int .i64 t := (hR 2 (by omega)).2 (by decide)
    have r3 : vals 3 = .int .u8 x := (hR 3 (by omega)).2 (by decide)
    have r4 : vals 4 = .pointer (some ⟨w.heap.size, 2, none⟩) := (hR 4 (by omega)).2 (by decide)
    have r5 : vals 5 = .int .i64 o := (hR 5 (by omega)).2 (by decide)
    have r6 : vals 6 = .int .u8 y := (hR 6 (by omega)).2 (by decide)
    obtain ⟨g7, r7, row7⟩ := (hR 7 (by omega)).1 rfl
    have r8 : vals 8 = .string XY := (hR 8 (by omega)).2 (by decide)
    have r9 : vals 9 = .pointer (some ⟨w.heap.size, 1, none⟩) := (hR 9 (by omega)).2 (by decide)
    have r10 : vals 10 = .int .u64 d := (hR 10 (by omega)).2 (by decide)
    have r11 : vals 11 = .string D := (hR 11 (by omega)).2 (by decide)
    have r12 : vals 12 = .string U := (hR 12 (by omega)).2 (by decide)
    have r13 : vals 13 = .bool false := (hR 13 (by omega)).2 (by decide)
    clear hR
    simp only [wpOps, List.take, putsS, Act.put, List.setIfInBounds_toArray, List.set_cons_zero, List.set_cons_succ, Nat.reduceAdd, r0, r1, r2, r3, r4, r5, r6, r7, r8, r9, r10, r11, r12, r13]
    clear r0 r1 r2 r3 r4 r5 r6 r7 r8 r9 r10 r11 r12 r13
    have BW := Lib.hid (B3.out.trans (hC.mono hz3))
    have RW := Lib.hid (HRow.out W hC)
    have hzW : w.heap.size ≤ W.heap.size := BW.out.size
    have hgW : w.heap.size < W.heap.size := RW.out.lt
    go_wp2_with fail
    refine (HPU.out _).mono ?_
    rintro e v1 ⟨rfl, hv1⟩
    have BV := Lib.hid (BW.out.trans (hv1.mono hzW))
    have RV := RW.out.below hv1 hgW
    have p0 := RV.cell 0
    have p1 := RV.cell 1
    have p2 := RV.cell 2
    simp only [List.getElem?_cons_zero, List.getElem?_cons_succ] at p0 p1 p2
    have hgV : w.heap.size < v1.heap.size := RV.lt
    have hzV : w.heap.size ≤ v1.heap.size := BV.out.size
    clear hv1 RV
    go_wp2_with fail
    all_goals first
      | (go_ret; exact ⟨rfl, BV.out.alloc hzV _⟩)
      | (exfalso; omega)


set_option maxRecDepth 100000 in
set_option maxHeartbeats 4000000 in
theorem otpTexts_Yi (t : Int) (d : Nat) (o : Int) (s : ByteArray) (ht : -9223372036854775808 ≤ t ∧ t ≤ 9223372036854775807) (hd : d < 18446744073709551616) (ho : -9223372036854775808 ≤ o ∧ o ≤ 9223372036854775807) (h100 : s.size ≤ 100) (w : World) (hG : G w)
    (hs : s.size = 10) (x1 y1 : Nat) (hx : ∀ h : 0 < s.size, (s[0]'h).toNat = x1) (hy : ∀ h : 1 < s.size, (s[1]'h).toNat = y1) (hb1 : x1 ≤ 9) (hb2 : 4 < y1) (hin : 0 ≤ t ∧ t ≤ 9 ∧ 0 ≤ o ∧ o ≤ 4) :
    Calls Tryd.prog 3 #[.agg #[.int .i64 t, .int .u64 d, .int .i64 o], .string s] w fun e w' => e = .returned (.bool true) ∧ Below w.heap.size w w' := by
  have hmx : Tryd.prog.follows .mixedOrders = true := by kernel_rfl
  obtain ⟨a, ha⟩ : ∃ a : Nat, IntKind.wrap .u64 t = a := ⟨(t % 18446744073709551616).toNat, by rw [IntKind.wrap_u64]; omega⟩
  obtain ⟨b, hb⟩ : ∃ a : Nat, IntKind.wrap .u64 o = a := ⟨(o % 18446744073709551616).toNat, by rw [IntKind.wrap_u64]; omega⟩
  have ha' := ha
  have hb' := hb
  rw [IntKind.wrap_u64] at ha' hb'
  obtain ⟨x, hxa⟩ : ∃ x : Nat, a % 256 = x := ⟨_, rfl⟩
  obtain ⟨y, hyb⟩ : ∃ x : Nat, b % 256 = x := ⟨_, rfl⟩
  have HWx : Hid (IntKind.wrap .u8 t = (x : Int)) := Lib.hid (by rw [IntKind.wrap_u8]; omega)
  have HWy : Hid (IntKind.wrap .u8 o = (y : Int)) := Lib.hid (by rw [IntKind.wrap_u8]; omega)
  obtain ⟨U, hU⟩ : ∃ U : ByteArray, (⟨(putL a 1 ++ putL b 1 ++ putL d 8).toArray⟩ : ByteArray) = U := ⟨_, rfl⟩
  obtain ⟨D, hD⟩ : ∃ U : ByteArray, (⟨(putL d 8).toArray⟩ : ByteArray) = U := ⟨_, rfl⟩
  obtain ⟨XY, hXY⟩ : ∃ U : ByteArray, (⟨(putL a 1 ++ putL b 1).toArray⟩ : ByteArray) = U := ⟨_, rfl⟩
  have hUsz : U.size = 10 := by rw [← hU, mkSz, List.length_append, List.length_append, putL_length, putL_length, putL_length]
  have hU0 : ∀ h : 0 < U.size, (U[0]'h).toNat = x := fun h => by subst hU; show (UInt8.ofNat (a % 256)).toNat = x; rw [UInt8.toNat_ofNat']; omega
  have hU1 : ∀ h : 1 < U.size, (U[1]'h).toNat = y := fun h => by subst hU; show (UInt8.ofNat (b % 256)).toNat = y; rw [UInt8.toNat_ofNat']; omega
  have hUd : getL (U.data.toList.drop 2) = d := by
    rw [← hU]
    show getL (((putL a 1 ++ putL b 1) ++ putL d 8).drop 2) = d
    rw [List.drop_append_of_le_length (by simp [putL_length]), List.drop_of_length_le (by simp [putL_length]), List.nil_append, getL_putL, Nat.mod_eq_of_lt (by omega)]
  have HT : Hid (∀ W, Calls Tryd.prog 8 #[.agg #[.int .i64 t, .int .u64 d, .int .i64 o]] W fun e w' => e = .returned (.string U) ∧ Below W.heap.size W w') := Lib.hid fun W => by
    rw [← hU]; exact text_any t o d a b ha hb (by omega) (by omega) hd W
  have HD : Hid (∀ W, Calls Tryd.prog 9 #[.int .u64 d, .int .i64 8] W fun e w' => e = .returned (.string D) ∧ Below W.heap.size W w') := Lib.hid fun W => by rw [← hD]; exact refPut_any d 8 W hd (by omega) (by omega)
  have HXY : Hid (∀ (W : World) (g : Nat), Row W g 5 [.int .u8 x, .int .u8 y] → (convert 30 9 (.slice (some ⟨g, 0, none⟩) 2 2)).run Tryd.prog W = .ok (.string XY) W) := Lib.hid fun W g h => by
    rw [← hXY]
    refine conv_bytes W _ _ 5 Tryd.underlying30 Tryd.underlying5 Tryd.underlying9 g 0 2 2 (putL a 1 ++ putL b 1) rfl fun i hi => ?_
    rw [Nat.zero_add, h.cell i]
    have e1 : (UInt8.ofNat (a % 256)).toNat = x := by rw [UInt8.toNat_ofNat']; omega
    have e2 : (UInt8.ofNat (b % 256)).toNat = y := by rw [UInt8.toNat_ofNat']; omega
    simp only [putL1, List.cons_append, List.nil_append, List.map_cons, List.map_nil, bv, e1, e2]
  have ad1 : ∀ W : World, (Op.stringOp .add XY D).run Tryd.prog W = .ok (.string U) W := fun W => by
    have h := run_string_add_sum W XY D (P := Tryd.prog) (by rw [← hXY, ← hD]; simp [mkSz, putL_length])
    rw [h, ← hU, ← hXY, ← hD, mkCat]
  have HPU : Hid (∀ W, Calls Tryd.prog 7 #[.string U] W fun e w' => e = .returned (.tuple #[.agg #[.int .i64 t, .int .u64 d, .int .i64 o], .int .i64 0]) ∧ Below W.heap.size W w') := Lib.hid fun W => by
    have h := parse_ok U hUsz x y hU0 hU1 (by omega) (by omega) W
    rw [hUd, show (x : Int) = t by omega, show (y : Int) = o by omega] at h
    exact h
  have HPs : Hid (∀ W, Calls Tryd.prog 7 #[.string s] W fun e w' => e = .returned (.tuple #[.agg #[.int .i64 0, .int .u64 0, .int .i64 0], .int .i64 4]) ∧ Below W.heap.size W w') := Lib.hid fun W => parse_bad s hs x1 y1 hx hy (by omega) W
  have hnn := fun W => st_selfN 0 0 0 W
  have h0s : 0 < s.size := by omega
  have h1s : 1 < s.size := by omega
  have g0 := hx h0s
  have g1 := hy h1s
  have h1I : (1 : Int) < (s.size : Int) := by omega
  have hz10 : ((s.size : Int) == 10) = true := by rw [beq_iff_eq]; omega
  have hb1I : (x1 : Int) ≤ 9 := by omega
  have hb2I : ¬ (y1 : Int) ≤ 4 := by omega
  have i1 : ¬ t < 0 := by omega
  have i2 : ¬ 9 < t := by omega
  have i3 : ¬ o < 0 := by omega
  have i4 : ¬ 4 < o := by omega
  have hqq := fun W => st_self t d o W
  have h100I : ¬ (100 : Int) < (s.size : Int) := by omega
  have HA : Hid (∀ W, Below w.heap.size w W → Calls Tryd.prog 6 #[] W fun e w' => e = .returned (.bool true) ∧ Below W.heap.size W w') := Lib.hid fun W h => awake21_any W (hG.below h)
  have HB0 := Lib.hid ((Below.refl w.heap.size w).alloc (Nat.le_refl _) (.cells #[.int .i64 t, .int .u64 d, .int .i64 o] 24))
  have HR0 := Lib.hid (Row.new w 24 [.int .i64 t, .int .u64 d, .int .i64 o])
  have hz0 : w.heap.size ≤ (w.alloc (.cells #[.int .i64 t, .int .u64 d, .int .i64 o] 24)).heap.size := HB0.out.size
  clear ha hb ha' hb' hxa hyb hU hD hXY hUsz hU0 hU1 hUd hs h100 hd hG hx hy hb1 hb2
  go_enter Tryd.func3, Tryd.ntmps3
  go_wp2_with fail
  generalize w.alloc (.cells #[.int .i64 t, .int .u64 d, .int .i64 o] 24) = w0 at HB0 HR0 hz0 ⊢
  have hgP0 : w.heap.size < w0.heap.size := HR0.out.lt
  refine (HA.out _ HB0.out).mono ?_
  rintro e yw1 ⟨rfl, hb1⟩
  have B1 := Lib.hid (HB0.out.trans (hb1.mono hz0))
  have hz1 : w.heap.size ≤ yw1.heap.size := B1.out.size
  have RP1 : Hid (Row yw1 w.heap.size 24 [.int .i64 t, .int .u64 d, .int .i64 o]) := Lib.hid (HR0.out.below hb1 hgP0)
  have hgP1 : w.heap.size < yw1.heap.size := RP1.out.lt
  clear hb1
  go_wp2_with fail
  refine (HPs.out _).mono ?_
  rintro e yw2 ⟨rfl, hb2⟩
  have B2 := Lib.hid (B1.out.trans (hb2.mono hz1))
  have hz2 : w.heap.size ≤ yw2.heap.size := B2.out.size
  have RP2 : Hid (Row yw2 w.heap.size 24 [.int .i64 t, .int .u64 d, .int .i64 o]) := Lib.hid (RP1.out.below hb2 hgP1)
  have hgP2 : w.heap.size < yw2.heap.size := RP2.out.lt
  clear hb2
  have cP2_0 := RP2.out.cell 0
  have cP2_1 := RP2.out.cell 1
  have cP2_2 := RP2.out.cell 2
  simp only [List.getElem?_cons_zero, List.getElem?_cons_succ] at cP2_0 cP2_1 cP2_2
  go_wp2_with fail
  refine (HT.out _).mono ?_
  rintro e yw3 ⟨rfl, hb3⟩
  have B3 := Lib.hid ((B2.out.alloc hz2 _).trans (hb3.mono (by simp; omega)))
  have hz3 : w.heap.size ≤ yw3.heap.size := B3.out.size
  have RP3 : Hid (Row yw3 w.heap.size 24 [.int .i64 t, .int .u64 d, .int .i64 o]) := Lib.hid ((RP2.out.alloc _).below hb3 (by simp; omega))
  have hgP3 : w.heap.size < yw3.heap.size := RP3.out.lt
  have RX3 : Hid (Row yw3 yw2.heap.size 24 [.int .i64 0, .int .u64 0, .int .i64 0]) := Lib.hid ((Row.new yw2 24 [.int .i64 0, .int .u64 0, .int .i64 0]).below hb3 (by simp))
  have hgX3 : yw2.heap.size < yw3.heap.size := RX3.out.lt
  clear hb3
  go_wp2_with fail
  have HRow : Hid (∀ W, Below yw3.heap.size yw3 W → Row W w.heap.size 24 [.int .i64 t, .int .u64 d, .int .i64 o]) := Lib.hid fun W h => RP3.out.below h RP3.out.lt
  refine wp_region_slotsB (m := 14) [] hmx (fun i v W => (i = 7 → (fun v W => ∃ g, v = .slice (some ⟨g, 0, none⟩) 2 2 ∧ Row W g 5 [.int .u8 x, .int .u8 y]) v W) ∧ (i ≠ 7 → v = ([.string U, .pointer (some ⟨w.heap.size, 0, none⟩), .int .i64 t, .int .u8 x, .pointer (some ⟨w.heap.size, 2, none⟩), .int .i64 o, .int .u8 y, undef, .string XY, .pointer (some ⟨w.heap.size, 1, none⟩), .int .u64 d, .string D, .string U, .bool false] : List Value).getD i undef)) (Below yw3.heap.size yw3) (by kernel_rfl) (by kernel_rfl) (fun i v W W' h hb => ⟨fun e => by obtain ⟨g, h1, h2⟩ := h.1 e; exact ⟨g, h1, h2.onwardO hb⟩, h.2⟩) ((Below.refl _ _).drew) ?_ ?_
  · refine ⟨?_, ?_, ?_, ?_, ?_, ?_, ?_, ?_, ?_, ?_, ?_, ?_, ?_, ?_, trivial⟩
    · intro ρ vals W hC hd ht hk hg hf
      have e8 := ht 8
      rw [evalS_old (by kernel_rfl)] at e8
      clear ht hd
      unfold StepOK
      go_simp
      exact Below.refl _ _
    · intro ρ vals W hC hd ht hk hg hf
      have e2 := ht 2
      rw [evalS_old (by kernel_rfl)] at e2
      clear ht hd
      unfold StepOK
      go_simp
      exact Below.refl _ _
    · intro ρ vals W hC hd ht hk hg hf
      have d1 := (hd 1 (by kernel_rfl)).2 (by decide)
      have e63 := ht 63
      rw [evalS_tmp (i := 1) (by kernel_rfl), d1] at e63
      clear ht hd d1
      have q := (HRow.out W hC).cell 0
      simp only [List.getElem?_cons_zero, List.getElem?_cons_succ] at q
      unfold StepOK
      go_simp
      exact Below.refl _ _
    · intro ρ vals W hC hd ht hk hg hf
      have d2 := (hd 2 (by kernel_rfl)).2 (by decide)
      have e64 := ht 64
      rw [evalS_tmp (i := 2) (by kernel_rfl), d2] at e64
      clear ht hd d2
      have g := HWx.out
      unfold StepOK
      go_simp
      exact Below.refl _ _
    · intro ρ vals W hC hd ht hk hg hf
      have e2 := ht 2
      rw [evalS_old (by kernel_rfl)] at e2
      clear ht hd
      unfold StepOK
      go_simp
      exact Below.refl _ _
    · intro ρ vals W hC hd ht hk hg hf
      have d4 := (hd 4 (by kernel_rfl)).2 (by decide)
      have e66 := ht 66
      rw [evalS_tmp (i := 4) (by kernel_rfl), d4] at e66
      clear ht hd d4
      have q := (HRow.out W hC).cell 2
      simp only [List.getElem?_cons_zero, List.getElem?_cons_succ] at q
      unfold StepOK
      go_simp
      exact Below.refl _ _
    · intro ρ vals W hC hd ht hk hg hf
      have d5 := (hd 5 (by kernel_rfl)).2 (by decide)
      have e67 := ht 67
      rw [evalS_tmp (i := 5) (by kernel_rfl), d5] at e67
      clear ht hd d5
      have g := HWy.out
      unfold StepOK
      go_simp
      exact Below.refl _ _
    · intro ρ vals W hC hd ht hk hg hf
      have d3 := (hd 3 (by kernel_rfl)).2 (by decide)
      have e65 := ht 65
      rw [evalS_tmp (i := 3) (by kernel_rfl), d3] at e65
      have d6 := (hd 6 (by kernel_rfl)).2 (by decide)
      have e68 := ht 68
      rw [evalS_tmp (i := 6) (by kernel_rfl), d6] at e68
      clear ht hd d3 d6
      unfold StepOK
      go_simp
      exact ⟨Row.new W 5 [.int .u8 x, .int .u8 y], hC.alloc hC.size _, (Below.refl _ _).alloc (Nat.le_refl _) _⟩
    · intro ρ vals W hC hd ht hk hg hf
      obtain ⟨g7, d7, row7⟩ := (hd 7 (by kernel_rfl)).1 rfl
      have e69 := ht 69
      rw [evalS_tmp (i := 7) (by kernel_rfl), d7] at e69
      clear ht hd d7
      have g := HXY.out W g7 row7
      unfold StepOK
      go_simp
      exact Below.refl _ _
    · intro ρ vals W hC hd ht hk hg hf
      have e2 := ht 2
      rw [evalS_old (by kernel_rfl)] at e2
      clear ht hd
      unfold StepOK
      go_simp
      exact Below.refl _ _
    · intro ρ vals W hC hd ht hk hg hf
      have d9 := (hd 9 (by kernel_rfl)).2 (by decide)
      have e71 := ht 71
      rw [evalS_tmp (i := 9) (by kernel_rfl), d9] at e71
      clear ht hd d9
      have q := (HRow.out W hC).cell 1
      simp only [List.getElem?_cons_zero, List.getElem?_cons_succ] at q
      unfold StepOK
      go_simp
      exact Below.refl _ _
    · intro ρ vals W hC hd ht hk hg hf
      have d10 := (hd 10 (by kernel_rfl)).2 (by decide)
      have e72 := ht 72
      rw [evalS_tmp (i := 10) (by kernel_rfl), d10] at e72
      clear ht hd d10
      unfold StepOK
      go_simp
      refine (HD.out W).mono ?_
      rintro e w' ⟨rfl, hb⟩
      exact ⟨_, rfl, rfl, hC.trans (hb.mono hC.size), hb⟩
    · intro ρ vals W hC hd ht hk hg hf
      have d8 := (hd 8 (by kernel_rfl)).2 (by decide)
      have e70 := ht 70
      rw [evalS_tmp (i := 8) (by kernel_rfl), d8] at e70
      have d11 := (hd 11 (by kernel_rfl)).2 (by decide)
      have e73 := ht 73
      rw [evalS_tmp (i := 11) (by kernel_rfl), d11] at e73
      clear ht hd d8 d11
      unfold StepOK
      go_simp
      exact Below.refl _ _
    · intro ρ vals W hC hd ht hk hg hf
      have d0 := (hd 0 (by kernel_rfl)).2 (by decide)
      have e62 := ht 62
      rw [evalS_tmp (i := 0) (by kernel_rfl), d0] at e62
      have d12 := (hd 12 (by kernel_rfl)).2 (by decide)
      have e74 := ht 74
      rw [evalS_tmp (i := 12) (by kernel_rfl), d12] at e74
      clear ht hd d0 d12
      unfold StepOK
      go_simp
      exact Below.refl _ _
  · intro vals W hC hR
    have r0 : vals 0 = .string U := (hR 0 (by omega)).2 (by decide)
    have r1 : vals 1 = .pointer (some ⟨w.heap.size, 0, none⟩) := (hR 1 (by omega)).2 (by decide)
    have r2 : vals 2 = .int .i64 t := (hR 2 (by omega)).2 (by decide)
    have r3 : vals 3 = .int .u8 x := (hR 3 (by omega)).2 (by decide)
    have r4 : vals 4 = .pointer (some ⟨w.heap.size, 2, none⟩) := (hR 4 (by omega)).2 (by decide)
    have r5 : vals 5 = .int .i64 o := (hR 5 (by omega)).2 (by decide)
    have r6 : vals 6 = .int .u8 y := (hR 6 (by omega)).2 (by decide)
    obtain ⟨g7, r7, row7⟩ := (hR 7 (by omega)).1 rfl
    have r8 : vals 8 = .string XY := (hR 8 (by omega)).2 (by decide)
    have r9 : vals 9 = .pointer (some ⟨w.heap.size, 1, none⟩) := (hR 9 (by omega)).2 (by decide)
    have r10 : vals 10 = .int .u64 d := (hR 10 (by omega)).2 (by decide)
    have r11 : vals 11 = .string D := (hR 11 (by omega)).2 (by decide)
    have r12 : vals 12 = .string U := (hR 12 (by omega)).2 (by decide)
    have r13 : vals 13 = .bool false := (hR 13 (by omega)).2 (by decide)
    clear hR
    simp only [wpOps, List.take, putsS, Act.put, List.setIfInBounds_toArray, List.set_cons_zero, List.set_cons_succ, Nat.reduceAdd, r0, r1, r2, r3, r4, r5, r6, r7, r8, r9, r10, r11, r12, r13]
    clear r0 r1 r2 r3 r4 r5 r6 r7 r8 r9 r10 r11 r12 r13
    have BW := Lib.hid (B3.out.trans (hC.mono hz3))
    have RW := Lib.hid (HRow.out W hC)
    have hzW : w.heap.size ≤ W.heap.size := BW.out.size
    have hgW : w.heap.size < W.heap.size := RW.out.lt
    go_wp2_with fail
    refine (HPU.out _).mono ?_
    rintro e v1 ⟨rfl, hv1⟩
    have BV := Lib.hid (BW.out.trans (hv1.mono hzW))
    have RV := RW.out.below hv1 hgW
    have p0 := RV.cell 0
    have p1 := RV.cell 1
    have p2 := RV.cell 2
    simp only [List.getElem?_cons_zero, List.getElem?_cons_succ] at p0 p1 p2
    have hgV : w.heap.size < v1.heap.size := RV.lt
    have hzV : w.heap.size ≤ v1.heap.size := BV.out.size
    clear hv1 RV
    go_wp2_with fail
    go_ret
    exact ⟨rfl, BV.out.alloc hzV _⟩


set_option maxRecDepth 100000 in
set_option maxHeartbeats 4000000 in
theorem otpTexts_Yo (t : Int) (d : Nat) (o : Int) (s : ByteArray) (ht : -9223372036854775808 ≤ t ∧ t ≤ 9223372036854775807) (hd : d < 18446744073709551616) (ho : -9223372036854775808 ≤ o ∧ o ≤ 9223372036854775807) (h100 : s.size ≤ 100) (w : World) (hG : G w)
    (hs : s.size = 10) (x1 y1 : Nat) (hx : ∀ h : 0 < s.size, (s[0]'h).toNat = x1) (hy : ∀ h : 1 < s.size, (s[1]'h).toNat = y1) (hb1 : x1 ≤ 9) (hb2 : 4 < y1) (hin : ¬ (0 ≤ t ∧ t ≤ 9 ∧ 0 ≤ o ∧ o ≤ 4)) :
    Calls Tryd.prog 3 #[.agg #[.int .i64 t, .int .u64 d, .int .i64 o], .string s] w fun e w' => e = .returned (.bool true) ∧ Below w.heap.size w w' := by
  have hmx : Tryd.prog.follows .mixedOrders = true := by kernel_rfl
  obtain ⟨a, ha⟩ : ∃ a : Nat, IntKind.wrap .u64 t = a := ⟨(t % 18446744073709551616).toNat, by rw [IntKind.wrap_u64]; omega⟩
  obtain ⟨b, hb⟩ : ∃ a : Nat, IntKind.wrap .u64 o = a := ⟨(o % 18446744073709551616).toNat, by rw [IntKind.wrap_u64]; omega⟩
  have ha' := ha
  have hb' := hb
  rw [IntKind.wrap_u64] at ha' hb'
  obtain ⟨x, hxa⟩ : ∃ x : Nat, a % 256 = x := ⟨_, rfl⟩
  obtain ⟨y, hyb⟩ : ∃ x : Nat, b % 256 = x := ⟨_, rfl⟩
  have HWx : Hid (IntKind.wrap .u8 t = (x : Int)) := Lib.hid (by rw [IntKind.wrap_u8]; omega)
  have HWy : Hid (IntKind.wrap .u8 o = (y : Int)) := Lib.hid (by rw [IntKind.wrap_u8]; omega)
  obtain ⟨U, hU⟩ : ∃ U : ByteArray, (⟨(putL a 1 ++ putL b 1 ++ putL d 8).toArray⟩ : ByteArray) = U := ⟨_, rfl⟩
  obtain ⟨D, hD⟩ : ∃ U : ByteArray, (⟨(putL d 8).toArray⟩ : ByteArray) = U := ⟨_, rfl⟩
  obtain ⟨XY, hXY⟩ : ∃ U : ByteArray, (⟨(putL a 1 ++ putL b 1).toArray⟩ : ByteArray) = U := ⟨_, rfl⟩
  have hUsz : U.size = 10 := by rw [← hU, mkSz, List.length_append, List.length_append, putL_length, putL_length, putL_length]
  have hU0 : ∀ h : 0 < U.size, (U[0]'h).toNat = x := fun h => by subst hU; show (UInt8.ofNat (a % 256)).toNat = x; rw [UInt8.toNat_ofNat']; omega
  have hU1 : ∀ h : 1 < U.size, (U[1]'h).toNat = y := fun h => by subst hU; show (UInt8.ofNat (b % 256)).toNat = y; rw [UInt8.toNat_ofNat']; omega
  have hUd : getL (U.data.toList.drop 2) = d := by
    rw [← hU]
    show getL (((putL a 1 ++ putL b 1) ++ putL d 8).drop 2) = d
    rw [List.drop_append_of_le_length (by simp [putL_length]), List.drop_of_length_le (by simp [putL_length]), List.nil_append, getL_putL, Nat.mod_eq_of_lt (by omega)]
  have HT : Hid (∀ W, Calls Tryd.prog 8 #[.agg #[.int .i64 t, .int .u64 d, .int .i64 o]] W fun e w' => e = .returned (.string U) ∧ Below W.heap.size W w') := Lib.hid fun W => by
    rw [← hU]; exact text_any t o d a b ha hb (by omega) (by omega) hd W
  have HD : Hid (∀ W, Calls Tryd.prog 9 #[.int .u64 d, .int .i64 8] W fun e w' => e = .returned (.string D) ∧ Below W.heap.size W w') := Lib.hid fun W => by rw [← hD]; exact refPut_any d 8 W hd (by omega) (by omega)
  have HXY : Hid (∀ (W : World) (g : Nat), Row W g 5 [.int .u8 x, .int .u8 y] → (convert 30 9 (.slice (some ⟨g, 0, none⟩) 2 2)).run Tryd.prog W = .ok (.string XY) W) := Lib.hid fun W g h => by
    rw [← hXY]
    refine conv_bytes W _ _ 5 Tryd.underlying30 Tryd.underlying5 Tryd.underlying9 g 0 2 2 (putL a 1 ++ putL b 1) rfl fun i hi => ?_
    rw [Nat.zero_add, h.cell i]
    have e1 : (UInt8.ofNat (a % 256)).toNat = x := by rw [UInt8.toNat_ofNat']; omega
    have e2 : (UInt8.ofNat (b % 256)).toNat = y := by rw [UInt8.toNat_ofNat']; omega
    simp only [putL1, List.cons_append, List.nil_append, List.map_cons, List.map_nil, bv, e1, e2]
  have ad1 : ∀ W : World, (Op.stringOp .add XY D).run Tryd.prog W = .ok (.string U) W := fun W => by
    have h := run_string_add_sum W XY D (P := Tryd.prog) (by rw [← hXY, ← hD]; simp [mkSz, putL_length])
    rw [h, ← hU, ← hXY, ← hD, mkCat]
  have HPU : ∃ (X Y Z E : Int), Hid (∀ W, Calls Tryd.prog 7 #[.string U] W fun e w' => e = .returned (.tuple #[.agg #[.int .i64 X, .int .u64 Y, .int .i64 Z], .int .i64 E]) ∧ Below W.heap.size W w') := by
    by_cases hr : x ≤ 9 ∧ y ≤ 4
    · exact ⟨x, d, y, 0, Lib.hid fun W => by have h := parse_ok U hUsz x y hU0 hU1 hr.1 hr.2 W; rw [hUd] at h; exact h⟩
    · exact ⟨0, 0, 0, 4, Lib.hid fun W => parse_bad U hUsz x y hU0 hU1 (by omega) W⟩
  obtain ⟨X, Y, Z, E, HPU⟩ := HPU
  have HPs : Hid (∀ W, Calls Tryd.prog 7 #[.string s] W fun e w' => e = .returned (.tuple #[.agg #[.int .i64 0, .int .u64 0, .int .i64 0], .int .i64 4]) ∧ Below W.heap.size W w') := Lib.hid fun W => parse_bad s hs x1 y1 hx hy (by omega) W
  have hnn := fun W => st_selfN 0 0 0 W
  have h0s : 0 < s.size := by omega
  have h1s : 1 < s.size := by omega
  have g0 := hx h0s
  have g1 := hy h1s
  have h1I : (1 : Int) < (s.size : Int) := by omega
  have hz10 : ((s.size : Int) == 10) = true := by rw [beq_iff_eq]; omega
  have hb1I : (x1 : Int) ≤ 9 := by omega
  have hb2I : ¬ (y1 : Int) ≤ 4 := by omega
  have hqq := fun W => st_eql X Y Z t d o W
  have h100I : ¬ (100 : Int) < (s.size : Int) := by omega
  have HA : Hid (∀ W, Below w.heap.size w W → Calls Tryd.prog 6 #[] W fun e w' => e = .returned (.bool true) ∧ Below W.heap.size W w') := Lib.hid fun W h => awake21_any W (hG.below h)
  have HB0 := Lib.hid ((Below.refl w.heap.size w).alloc (Nat.le_refl _) (.cells #[.int .i64 t, .int .u64 d, .int .i64 o] 24))
  have HR0 := Lib.hid (Row.new w 24 [.int .i64 t, .int .u64 d, .int .i64 o])
  have hz0 : w.heap.size ≤ (w.alloc (.cells #[.int .i64 t, .int .u64 d, .int .i64 o] 24)).heap.size := HB0.out.size
  clear ha hb ha' hb' hxa hyb hU hD hXY hUsz hU0 hU1 hUd hs h100 hd hG hx hy hb1 hb2
  go_enter Tryd.func3, Tryd.ntmps3
  go_wp2_with fail
  generalize w.alloc (.cells #[.int .i64 t, .int .u64 d, .int .i64 o] 24) = w0 at HB0 HR0 hz0 ⊢
  have hgP0 : w.heap.size < w0.heap.size := HR0.out.lt
  refine (HA.out _ HB0.out).mono ?_
  rintro e yw1 ⟨rfl, hb1⟩
  have B1 := Lib.hid (HB0.out.trans (hb1.mono hz0))
  have hz1 : w.heap.size ≤ yw1.heap.size := B1.out.size
  have RP1 : Hid (Row yw1 w.heap.size 24 [.int .i64 t, .int .u64 d, .int .i64 o]) := Lib.hid (HR0.out.below hb1 hgP0)
  have hgP1 : w.heap.size < yw1.heap.size := RP1.out.lt
  clear hb1
  go_wp2_with fail
  refine (HPs.out _).mono ?_
  rintro e yw2 ⟨rfl, hb2⟩
  have B2 := Lib.hid (B1.out.trans (hb2.mono hz1))
  have hz2 : w.heap.size ≤ yw2.heap.size := B2.out.size
  have RP2 : Hid (Row yw2 w.heap.size 24 [.int .i64 t, .int .u64 d, .int .i64 o]) := Lib.hid (RP1.out.below hb2 hgP1)
  have hgP2 : w.heap.size < yw2.heap.size := RP2.out.lt
  clear hb2
  have cP2_0 := RP2.out.cell 0
  have cP2_1 := RP2.out.cell 1
  have cP2_2 := RP2.out.cell 2
  simp only [List.getElem?_cons_zero, List.getElem?_cons_succ] at cP2_0 cP2_1 cP2_2
  go_wp2_with fail
  refine (HT.out _).mono ?_
  rintro e yw3 ⟨rfl, hb3⟩
  have B3 := Lib.hid ((B2.out.alloc hz2 _).trans (hb3.mono (by simp; omega)))
  have hz3 : w.heap.size ≤ yw3.heap.size := B3.out.size
  have RP3 : Hid (Row yw3 w.heap.size 24 [.int .i64 t, .int .u64 d, .int .i64 o]) := Lib.hid ((RP2.out.alloc _).below hb3 (by simp; omega))
  have hgP3 : w.heap.size < yw3.heap.size := RP3.out.lt
  have RX3 : Hid (Row yw3 yw2.heap.size 24 [.int .i64 0, .int .u64 0, .int .i64 0]) := Lib.hid ((Row.new yw2 24 [.int .i64 0, .int .u64 0, .int .i64 0]).below hb3 (by simp))
  have hgX3 : yw2.heap.size < yw3.heap.size := RX3.out.lt
  clear hb3
  go_wp2_with fail
  have HRow : Hid (∀ W, Below yw3.heap.size yw3 W → Row W w.heap.size 24 [.int .i64 t, .int .u64 d, .int .i64 o]) := Lib.hid fun W h => RP3.out.below h RP3.out.lt
  refine wp_region_slotsB (m := 14) [] hmx (fun i v W => (i = 7 → (fun v W => ∃ g, v = .slice (some ⟨g, 0, none⟩) 2 2 ∧ Row W g 5 [.int .u8 x, .int .u8 y]) v W) ∧ (i ≠ 7 → v = ([.string U, .pointer (some ⟨w.heap.size, 0, none⟩), .int .i64 t, .int .u8 x, .pointer (some ⟨w.heap.size, 2, none⟩), .int .i64 o, .int .u8 y, undef, .string XY, .pointer (some ⟨w.heap.size, 1, none⟩), .int .u64 d, .string D, .string U, .bool false] : List Value).getD i undef)) (Below yw3.heap.size yw3) (by kernel_rfl) (by kernel_rfl) (fun i v W W' h hb => ⟨fun e => by obtain ⟨g, h1, h2⟩ := h.1 e; exact ⟨g, h1, h2.onwardO hb⟩, h.2⟩) ((Below.refl _ _).drew) ?_ ?_
  · refine ⟨?_, ?_, ?_, ?_, ?_, ?_, ?_, ?_, ?_, ?_, ?_, ?_, ?_, ?_, trivial⟩
    · intro ρ vals W hC hd ht hk hg hf
      have e8 := ht 8
      rw [evalS_old (by kernel_rfl)] at e8
      clear ht hd
      unfold StepOK
      go_simp
      exact Below.refl _ _
    · intro ρ vals W hC hd ht hk hg hf
      have e2 := ht 2
      rw [evalS_old (by kernel_rfl)] at e2
      clear ht hd
      unfold StepOK
      go_simp
      exact Below.refl _ _
    · intro ρ vals W hC hd ht hk hg hf
      have d1 := (hd 1 (by kernel_rfl)).2 (by decide)
      have e63 := ht 63
      rw [evalS_tmp (i := 1) (by kernel_rfl), d1] at e63
      clear ht hd d1
      have q := (HRow.out W hC).cell 0
      simp only [List.getElem?_cons_zero, List.getElem?_cons_succ] at q
      unfold StepOK
      go_simp
      exact Below.refl _ _
    · intro ρ vals W hC hd ht hk hg hf
      have d2 := (hd 2 (by kernel_rfl)).2 (by decide)
      have e64 := ht 64
      rw [evalS_tmp (i := 2) (by kernel_rfl), d2] at e64
      clear ht hd d2
      have g := HWx.out
      unfold StepOK
      go_simp
      exact Below.refl _ _
    · intro ρ vals W hC hd ht hk hg hf
      have e2 := ht 2
      rw [evalS_old (by kernel_rfl)] at e2
      clear ht hd
      unfold StepOK
      go_simp
      exact Below.refl _ _
    · intro ρ vals W hC hd ht hk hg hf
      have d4 := (hd 4 (by kernel_rfl)).2 (by decide)
      have e66 := ht 66
      rw [evalS_tmp (i := 4) (by kernel_rfl), d4] at e66
      clear ht hd d4
      have q := (HRow.out W hC).cell 2
      simp only [List.getElem?_cons_zero, List.getElem?_cons_succ] at q
      unfold StepOK
      go_simp
      exact Below.refl _ _
    · intro ρ vals W hC hd ht hk hg hf
      have d5 := (hd 5 (by kernel_rfl)).2 (by decide)
      have e67 := ht 67
      rw [evalS_tmp (i := 5) (by kernel_rfl), d5] at e67
      clear ht hd d5
      have g := HWy.out
      unfold StepOK
      go_simp
      exact Below.refl _ _
    · intro ρ vals W hC hd ht hk hg hf
      have d3 := (hd 3 (by kernel_rfl)).2 (by decide)
      have e65 := ht 65
      rw [evalS_tmp (i := 3) (by kernel_rfl), d3] at e65
      have d6 := (hd 6 (by kernel_rfl)).2 (by decide)
      have e68 := ht 68
      rw [evalS_tmp (i := 6) (by kernel_rfl), d6] at e68
      clear ht hd d3 d6
      unfold StepOK
      go_simp
      exact ⟨Row.new W 5 [.int .u8 x, .int .u8 y], hC.alloc hC.size _, (Below.refl _ _).alloc (Nat.le_refl _) _⟩
    · intro ρ vals W hC hd ht hk hg hf
      obtain ⟨g7, d7, row7⟩ := (hd 7 (by kernel_rfl)).1 rfl
      have e69 := ht 69
      rw [evalS_tmp (i := 7) (by kernel_rfl), d7] at e69
      clear ht hd d7
      have g := HXY.out W g7 row7
      unfold StepOK
      go_simp
      exact Below.refl _ _
    · intro ρ vals W hC hd ht hk hg hf
      have e2 := ht 2
      rw [evalS_old (by kernel_rfl)] at e2
      clear ht hd
      unfold StepOK
      go_simp
      exact Below.refl _ _
    · intro ρ vals W hC hd ht hk hg hf
      have d9 := (hd 9 (by kernel_rfl)).2 (by decide)
      have e71 := ht 71
      rw [evalS_tmp (i := 9) (by kernel_rfl), d9] at e71
      clear ht hd d9
      have q := (HRow.out W hC).cell 1
      simp only [List.getElem?_cons_zero, List.getElem?_cons_succ] at q
      unfold StepOK
      go_simp
      exact Below.refl _ _
    · intro ρ vals W hC hd ht hk hg hf
      have d10 := (hd 10 (by kernel_rfl)).2 (by decide)
      have e72 := ht 72
      rw [evalS_tmp (i := 10) (by kernel_rfl), d10] at e72
      clear ht hd d10
      unfold StepOK
      go_simp
      refine (HD.out W).mono ?_
      rintro e w' ⟨rfl, hb⟩
      exact ⟨_, rfl, rfl, hC.trans (hb.mono hC.size), hb⟩
    · intro ρ vals W hC hd ht hk hg hf
      have d8 := (hd 8 (by kernel_rfl)).2 (by decide)
      have e70 := ht 70
      rw [evalS_tmp (i := 8) (by kernel_rfl), d8] at e70
      have d11 := (hd 11 (by kernel_rfl)).2 (by decide)
      have e73 := ht 73
      rw [evalS_tmp (i := 11) (by kernel_rfl), d11] at e73
      clear ht hd d8 d11
      unfold StepOK
      go_simp
      exact Below.refl _ _
    · intro ρ vals W hC hd ht hk hg hf
      have d0 := (hd 0 (by kernel_rfl)).2 (by decide)
      have e62 := ht 62
      rw [evalS_tmp (i := 0) (by kernel_rfl), d0] at e62
      have d12 := (hd 12 (by kernel_rfl)).2 (by decide)
      have e74 := ht 74
      rw [evalS_tmp (i := 12) (by kernel_rfl), d12] at e74
      clear ht hd d0 d12
      unfold StepOK
      go_simp
      exact Below.refl _ _
  · intro vals W hC hR
    have r0 : vals 0 = .string U := (hR 0 (by omega)).2 (by decide)
    have r1 : vals 1 = .pointer (some ⟨w.heap.size, 0, none⟩) := (hR 1 (by omega)).2 (by decide)
    have r2 : vals 2 = .int .i64 t := (hR 2 (by omega)).2 (by decide)
    have r3 : vals 3 = .int .u8 x := (hR 3 (by omega)).2 (by decide)
    have r4 : vals 4 = .pointer (some ⟨w.heap.size, 2, none⟩) := (hR 4 (by omega)).2 (by decide)
    have r5 : vals 5 = .int .i64 o := (hR 5 (by omega)).2 (by decide)
    have r6 : vals 6 = .int .u8 y := (hR 6 (by omega)).2 (by decide)
    obtain ⟨g7, r7, row7⟩ := (hR 7 (by omega)).1 rfl
    have r8 : vals 8 = .string XY := (hR 8 (by omega)).2 (by decide)
    have r9 : vals 9 = .pointer (some ⟨w.heap.size, 1, none⟩) := (hR 9 (by omega)).2 (by decide)
    have r10 : vals 10 = .int .u64 d := (hR 10 (by omega)).2 (by decide)
    have r11 : vals 11 = .string D := (hR 11 (by omega)).2 (by decide)
    have r12 : vals 12 = .string U := (hR 12 (by omega)).2 (by decide)
    have r13 : vals 13 = .bool false := (hR 13 (by omega)).2 (by decide)
    clear hR
    simp only [wpOps, List.take, putsS, Act.put, List.setIfInBounds_toArray, List.set_cons_zero, List.set_cons_succ, Nat.reduceAdd, r0, r1, r2, r3, r4, r5, r6, r7, r8, r9, r10, r11, r12, r13]
    clear r0 r1 r2 r3 r4 r5 r6 r7 r8 r9 r10 r11 r12 r13
    have BW := Lib.hid (B3.out.trans (hC.mono hz3))
    have RW := Lib.hid (HRow.out W hC)
    have hzW : w.heap.size ≤ W.heap.size := BW.out.size
    have hgW : w.heap.size < W.heap.size := RW.out.lt
    go_wp2_with fail
    refine (HPU.out _).mono ?_
    rintro e v1 ⟨rfl, hv1⟩
    have BV := Lib.hid (BW.out.trans (hv1.mono hzW))
    have RV := RW.out.below hv1 hgW
    have p0 := RV.cell 0
    have p1 := RV.cell 1
    have p2 := RV.cell 2
    simp only [List.getElem?_cons_zero, List.getElem?_cons_succ] at p0 p1 p2
    have hgV : w.heap.size < v1.heap.size := RV.lt
    have hzV : w.heap.size ≤ v1.heap.size := BV.out.size
    clear hv1 RV
    go_wp2_with fail
    all_goals first
      | (go_ret; exact ⟨rfl, BV.out.alloc hzV _⟩)
      | (exfalso; omega)


set_option maxRecDepth 100000 in
set_option maxHeartbeats 4000000 in
theorem OtpTexts_walk (t0 : Int) (d0 : Nat) (o0 : Int) (a1 : ByteArray) (w0 : (-9223372036854775808 ≤ t0 ∧ t0 ≤ 9223372036854775807) ∧ d0 < 18446744073709551616 ∧ (-9223372036854775808 ≤ o0 ∧ o0 ≤ 9223372036854775807)) (w1 : a1.size ≤ 140737488355328) (w : World) (hG : G w) :
    Calls Tryd.prog 3 #[.agg #[.int .i64 t0, .int .u64 d0, .int .i64 o0], .string a1] w fun e w' => e = .returned (.bool true) ∧ Below w.heap.size w w' := by
  by_cases h100 : 100 < a1.size
  · have h100I : (100 : Int) < (a1.size : Int) := by omega
    have HA : Hid (∀ W, Below w.heap.size w W → Calls Tryd.prog 6 #[] W fun e w' => e = .returned (.bool true) ∧ Below W.heap.size W w') := Lib.hid fun W h => awake21_any W (hG.below h)
    have HB0 := Lib.hid ((Below.refl w.heap.size w).alloc (Nat.le_refl _) (.cells #[.int .i64 t0, .int .u64 d0, .int .i64 o0] 24))
    clear hG w0 w1 h100
    go_enter Tryd.func3, Tryd.ntmps3
    go_wp2_with fail
    generalize w.alloc (.cells #[.int .i64 t0, .int .u64 d0, .int .i64 o0] 24) = w0 at HB0 ⊢
    refine (HA.out _ HB0.out).mono ?_
    rintro e yw1 ⟨rfl, hb1⟩
    have B1 := Lib.hid (HB0.out.trans (hb1.mono HB0.out.size))
    clear hb1
    go_wp2_with fail
    go_ret
    exact ⟨rfl, B1.out⟩
  · by_cases hin : 0 ≤ t0 ∧ t0 ≤ 9 ∧ 0 ≤ o0 ∧ o0 ≤ 4
    · by_cases hs : a1.size = 10
      · obtain ⟨x, hx⟩ : ∃ x, (a1[0]'(by omega)).toNat = x := ⟨_, rfl⟩
        obtain ⟨y, hy⟩ : ∃ x, (a1[1]'(by omega)).toNat = x := ⟨_, rfl⟩
        by_cases h1 : x ≤ 9
        · by_cases h2 : y ≤ 4
          · exact otpTexts_Ri t0 d0 o0 a1 w0.1 w0.2.1 w0.2.2 (by omega) w hG hs x y (fun _ => hx) (fun _ => hy) h1 h2 hin
          · exact otpTexts_Yi t0 d0 o0 a1 w0.1 w0.2.1 w0.2.2 (by omega) w hG hs x y (fun _ => hx) (fun _ => hy) h1 (by omega) hin
        · exact otpTexts_Xi t0 d0 o0 a1 w0.1 w0.2.1 w0.2.2 (by omega) w hG hs x y (fun _ => hx) (fun _ => hy) (by omega) hin
      · exact otpTexts_Si t0 d0 o0 a1 w0.1 w0.2.1 w0.2.2 (by omega) w hG hs hin
    · by_cases hs : a1.size = 10
      · obtain ⟨x, hx⟩ : ∃ x, (a1[0]'(by omega)).toNat = x := ⟨_, rfl⟩
        obtain ⟨y, hy⟩ : ∃ x, (a1[1]'(by omega)).toNat = x := ⟨_, rfl⟩
        by_cases h1 : x ≤ 9
        · by_cases h2 : y ≤ 4
          · exact otpTexts_Ro t0 d0 o0 a1 w0.1 w0.2.1 w0.2.2 (by omega) w hG hs x y (fun _ => hx) (fun _ => hy) h1 h2 hin
          · exact otpTexts_Yo t0 d0 o0 a1 w0.1 w0.2.1 w0.2.2 (by omega) w hG hs x y (fun _ => hx) (fun _ => hy) h1 (by omega) hin
        · exact otpTexts_Xo t0 d0 o0 a1 w0.1 w0.2.1 w0.2.2 (by omega) w hG hs x y (fun _ => hx) (fun _ => hy) (by omega) hin
      · exact otpTexts_So t0 d0 o0 a1 w0.1 w0.2.1 w0.2.2 (by omega) w hG hs hin
end Go.Proofs.YtlmbijhkpgolaaaDoor
