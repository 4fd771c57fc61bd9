/- The walk of OctetSums. -/
import Derived.Test.YtegpfdbfnilpmaaRows
import Derived.WalkKit
import Derived.WalkSpells
import Derived.WalkLawsBesides
import Derived.Lib.Hide
import Derived.Deep.DeepCutAuto
import Derived.Deep.RegionWith
import Derived.Deep.RegionHeld3
import Derived.Test.YtegpfdbfnilpmaaCount
namespace Go.Proofs.Ytegpfdbfnilpmaa
open Go.RowKit
set_option linter.unusedVariables false

/-- The sum of texts that were just laid in a block of their own. -/
theorem CRC_new (ss : List ByteArray) (n : Nat) (X : Nat) (W : World) (hn : ss.length = n) (h1 : n ≤ 100) (hsz : ∀ i, i < n → (ss.getD i ByteArray.empty).size ≤ 9223372036854775807) (hX : crcL (cat ss) = X)
    (cs : Array Value) (hcs : cs = (ss.map Value.string).toArray) (B : Nat) (hB : B = W.heap.size) :
    Calls Try.prog 15 #[.slice (some ⟨B, 0, none⟩) n n] (W.alloc (.cells cs 9)) fun e w' => e = .returned (.int .u32 (X : Nat)) ∧ Below W.heap.size W w' := by
  subst hB hcs hX
  refine (CRC_any ss W.heap.size n n _ hn (by omega) (by simp) hsz (fun i hi => ?_)).mono fun e w' ⟨he, hb⟩ => ⟨he, ((Below.refl _ _).alloc (Nat.le_refl _) _).trans (hb.mono (by simp))⟩
  have h := (Row.new W 9 (ss.map Value.string)).cell i
  rw [h, List.getElem?_map]
  have hi' : i < ss.length := by omega
  simp [List.getD, hi']

theorem u32_info : (Try.prog.info? 32).map (fun i => (i.zero, i.size)) = some (some (.int .u32 0), 1) := by kernel_rfl
theorem run_index_cells {P : Program} (w : World) (t e : TypeId) (n : Nat) (cs : Array Value) (k ke : IntKind) (i : Nat) (z v : Value) (h : P.underlying t = some (.array n e)) (he : P.underlying e = some (.int ke)) (hi : (P.info? e).map (fun i => (i.zero, i.size)) = some (some z, 1))
    (hn : i < n) (hc : cs[i]? = some v) : (Instr.index t (.agg cs) (.int k (i : Int))).run P w = .ok v w := by
  have h1 : (0 : Int) ≤ (i : Int) ∧ (i : Int) < (n : Int) := by omega
  cases hq : P.info? e with
  | none => simp [hq] at hi
  | some j =>
    simp [hq] at hi
    simp [Instr.index, run_underlying h, asIntOf, h1, go_sem, part, sizeOf, typeInfo, hq, hi, hc, isAgg, run_underlying he, hn]

/-- The table's item, told by the sum of one byte that is turned about. -/
theorem item_sum (b : Nat) (hb : b < 256) : ((crcL [UInt8.ofNat (b ^^^ 255)] ^^^ 4294967295) ^^^ 16777215) = stpN 8 b := by
  have h1 : (UInt8.ofNat (b ^^^ 255)).toNat = b ^^^ 255 := by
    have : b ^^^ 255 < 256 := Nat.xor_lt_two_pow (n := 8) hb (by omega)
    rw [UInt8.toNat_ofNat']
    exact Nat.mod_eq_of_lt this
  have h2 : (4294967295 : Nat) = (16777215 * 2 ^ 8) ^^^ 255 := by decide
  have h3 : crcR 4294967295 [UInt8.ofNat (b ^^^ 255)] = 16777215 ^^^ stpN 8 b := by
    show stpN 8 (4294967295 ^^^ (UInt8.ofNat (b ^^^ 255)).toNat) = _
    rw [h1]
    have h4 : 4294967295 ^^^ (b ^^^ 255) = (16777215 * 2 ^ 8) ^^^ b := by
      rw [h2, Nat.xor_comm b 255, Nat.xor_assoc, ← Nat.xor_assoc 255 255 b, Nat.xor_self, Nat.zero_xor]
    rw [h4, stpN_xor, stpN_high _ 8 8 (by omega)]
  have h5 : stpN 8 b < 4294967296 := stpN_lt (by omega) 8
  unfold crcL
  rw [h3, ← ones_xor _ (xor_lt (by omega) h5)]
  rw [Nat.xor_comm 4294967295, Nat.xor_assoc _ 4294967295 4294967295, Nat.xor_self, Nat.xor_zero]
  rw [Nat.xor_comm 16777215, Nat.xor_assoc, Nat.xor_self, Nat.xor_zero]

/-- A byte with one bit turned is another one. -/
theorem turn_bit (c : UInt8) (r : Nat) : ∃ d : UInt8, d ≠ c ∧ bits BinOp.xor IntKind.u8 (c.toNat : Int) ((2 : Int) ^ (r % 8) % 256) = (d.toNat : Int) := by
  have hr : r % 8 < 8 := Nat.mod_lt _ (by omega)
  have hp : 2 ^ (r % 8) < 256 := Nat.lt_of_lt_of_le (Nat.pow_lt_pow_right (by omega) hr) (by decide)
  have hpos : 0 < 2 ^ (r % 8) := Nat.pow_pos (by omega)
  have e1 : ((2 : Int) ^ (r % 8) % 256) = ((2 ^ (r % 8) : Nat) : Int) := by
    have : ((2 : Int) ^ (r % 8)) = ((2 ^ (r % 8) : Nat) : Int) := by simp
    rw [this]; omega
  have hc := c.toNat_lt
  have hx : c.toNat ^^^ 2 ^ (r % 8) < 256 := Nat.xor_lt_two_pow (n := 8) hc hp
  have ed : (UInt8.ofNat (c.toNat ^^^ 2 ^ (r % 8))).toNat = c.toNat ^^^ 2 ^ (r % 8) := by
    rw [UInt8.toNat_ofNat']; exact Nat.mod_eq_of_lt hx
  refine ⟨UInt8.ofNat (c.toNat ^^^ 2 ^ (r % 8)), fun h => ?_, ?_⟩
  · have h1 := congrArg UInt8.toNat h
    rw [ed] at h1
    have h2 := congrArg (c.toNat ^^^ ·) h1
    simp only [← Nat.xor_assoc, Nat.xor_self, Nat.zero_xor] at h2
    omega
  · rw [e1, ed]
    exact u8_xor_nat _ _ hc hp

/-- The bytes of a row in which one was laid anew, as a text. -/
theorem conv_set {P : Program} (w : World) (src dst e : TypeId) (hs : P.underlying src = some (.slice e)) (he : P.underlying e = some (.int .u8)) (hd : P.underlying dst = some .string)
    (g cap i : Nat) (s : ByteArray) (d : UInt8) (hi : i < s.size) (hc : ∀ j, j < s.size → w.cell? ⟨g, j, none⟩ = some (bv (s.data.toList.getD j 0))) :
    (convert src dst (.slice (some ⟨g, 0, none⟩) s.size cap)).run P (w.setCell ⟨g, i, none⟩ (.int .u8 d.toNat)) = .ok (.string ⟨(s.data.toList.set i d).toArray⟩) (w.setCell ⟨g, i, none⟩ (.int .u8 d.toNat)) := by
  refine conv_bytes _ src dst e hs he hd g 0 s.size cap (s.data.toList.set i d) (by simp) (fun j hj => ?_)
  rw [Nat.zero_add, List.getElem?_map, List.getElem?_set]
  by_cases h : i = j
  · subst h
    rw [if_pos rfl, if_pos (by simpa using hi), World.cell?_setCell_same (h := hc _ hj)]
    rfl
  · rw [if_neg h, World.cell?_setCell_other (h := by intro e; injection e with _ e2 _; exact h e2), hc j hj]
    have hj' : j < s.data.toList.length := by simpa using hj
    rw [List.getD_eq_getElem?_getD, List.getElem?_eq_getElem hj']
    rfl

theorem refCRC_X (s : ByteArray) (X : Nat) (w : World) (hs : s.size ≤ 9223372036854775807) (hX : crcL s.data.toList = X) :
    Calls Try.prog 14 #[.string s] w fun e w' => e = .returned (.int .u32 (X : Nat)) ∧ w = w' := by
  subst hX
  exact refCRC_any s w hs

set_option maxRecDepth 100000 in
set_option maxHeartbeats 20000000 in
theorem OctetSums_walk (a0 : ByteArray) (a1 : ByteArray) (a2 : Int) (a3 : Int) (w0 : a0.size ≤ 140737488355328) (w1 : a1.size ≤ 140737488355328) (w2 : (Lit.int .u16 a2).wf = true) (w3 : (Lit.int .u8 a3).wf = true) (w : World) :
    Calls Try.prog 4 #[.string a0, .string a1, .int .u16 a2, .int .u8 a3] w fun e w' => e = .returned (.bool true) ∧ Below w.heap.size w w' := by
  have hat : 0 ≤ a2 ∧ a2 ≤ 65535 := by simpa [Lit.wf, IntKind.min, IntKind.max, IntKind.signed, IntKind.bits] using w2
  have hbit : 0 ≤ a3 ∧ a3 ≤ 255 := by simpa [Lit.wf, IntKind.min, IntKind.max, IntKind.signed, IntKind.bits] using w3
  clear w2 w3
  have hsA : (a0 ++ a1).size = a0.size + a1.size := ByteArray.size_append
  go_enter Try.func4, Try.ntmps4
  go_wp2_with fail
  refine (awake_any _).mono ?_
  rintro e wa ⟨rfl, hb0⟩
  by_cases hbig : a0.size + a1.size ≤ 2000
  · have HS := Lib.hid hsA
    clear hsA
    obtain ⟨X, HX⟩ : ∃ X, Hid (crcL (a0.data.toList ++ a1.data.toList) = X) := ⟨_, Lib.hid rfl⟩
    go_wp2_with fail
    refine (refCRC_X (a0 ++ a1) X _ (by rw [HS.out]; omega) (by rw [ByteArray.data_append, Array.toList_append]; exact HX.out)).mono ?_
    rintro e wb ⟨rfl, rfl⟩
    have c3 : ∀ W : World, Calls Try.prog 15 #[.slice (some ⟨W.heap.size, 0, none⟩) 3 3] (W.alloc (.cells #[.string a0, .string ⟨#[]⟩, .string a1] 9)) fun e w' => e = .returned (.int .u32 (X : Nat)) ∧ Below W.heap.size W w' :=
      fun W => CRC_new [a0, ⟨#[]⟩, a1] 3 X W rfl (by omega) (fun i hi => by
        rcases (by omega : i = 0 ∨ i = 1 ∨ i = 2) with rfl | rfl | rfl
        · show a0.size ≤ _; omega
        · show (0 : Nat) ≤ _; omega
        · show a1.size ≤ _; omega) (by rw [← HX.out]; congr 1; simp [cat]) _ rfl _ rfl
    have c3d : ∀ W : World, Calls Try.prog 15 #[.slice (some ⟨W.heap.size, 0, none⟩) 3 3] (W.alloc (.cells #[.string a0, .string ⟨#[]⟩, .string a1] 9)).drew fun e w' => e = .returned (.int .u32 (X : Nat)) ∧ Below W.heap.size W w' :=
      fun W => (c3 W.drew).mono fun _ _ h => ⟨h.1, ((Below.refl _ _).drew).trans h.2⟩
    have c1 : ∀ W : World, Calls Try.prog 15 #[.slice (some ⟨W.heap.size, 0, none⟩) 1 1] (W.alloc (.cells #[.string (a0 ++ a1)] 9)) fun e w' => e = .returned (.int .u32 (X : Nat)) ∧ Below W.heap.size W w' :=
      fun W => CRC_new [a0 ++ a1] 1 X W rfl (by omega) (fun i hi => by
        rcases (by omega : i = 0) with rfl
        show (a0 ++ a1).size ≤ _
        rw [HS.out]; omega) (by rw [← HX.out]; congr 1; simp [cat, ByteArray.data_append]) _ rfl _ rfl
    obtain ⟨b, HB⟩ : ∃ b : Nat, Hid (IntKind.u8.wrap a2 = (b : Int) ∧ b < 256) := ⟨(a2 % 256).toNat, by rw [IntKind.wrap_u8]; constructor <;> omega⟩
    have hb256 := HB.out.2
    have hw8 := HB.out.1
    have hidx : ∀ W : World, (Instr.index 35 (.agg tabA) (.int .u8 (b : Int))).run Try.prog W = .ok (.int .u32 (stpN 8 b : Nat)) W := fun W =>
      run_index_cells W 35 32 256 tabA .u8 .u32 b _ _ Try.underlying35 Try.underlying32 u32_info hb256 (by
        have h := tabL_get 256 b hb256
        rw [if_pos hb256] at h
        simpa [tabA] using h)
    have hadd : ∀ W : World, (Op.stringOp .add a0 a1).run Try.prog W = .ok (.string (a0 ++ a1)) W := fun W => run_string_add_sum W a0 a1 (by omega)
    have hx8 : bits BinOp.xor IntKind.u8 (b : Int) 255 = ((b ^^^ 255 : Nat) : Int) := u8_xor_nat b 255 hb256 (by omega)
    obtain ⟨sb, HSB⟩ : ∃ sb : ByteArray, Hid (sb = ⟨#[UInt8.ofNat (b ^^^ 255)]⟩) := ⟨_, Lib.hid rfl⟩
    have hcv : ∀ W : World, (convert 37 9 (.slice (some ⟨W.heap.size, 0, none⟩) 1 1)).run Try.prog (W.alloc (.cells #[.int .u8 ((b ^^^ 255 : Nat) : Int)] 5)) = .ok (.string sb) (W.alloc (.cells #[.int .u8 ((b ^^^ 255 : Nat) : Int)] 5)) := fun W => by
      have hlt : b ^^^ 255 < 256 := Nat.xor_lt_two_pow (n := 8) hb256 (by omega)
      have h := conv_one (P := Try.prog) W 37 9 5 Try.underlying37 Try.underlying5 Try.underlying9 ((b ^^^ 255 : Nat) : Int) (by omega) (by omega) _ rfl
      rw [HSB.out]
      exact h
    obtain ⟨Y, HY⟩ : ∃ Y, Hid (crcL [UInt8.ofNat (b ^^^ 255)] = Y) := ⟨_, Lib.hid rfl⟩
    have hYl : Y < 4294967296 := by rw [← HY.out]; unfold crcL; omega
    have hy1 : bits BinOp.xor IntKind.u32 (Y : Int) 4294967295 = ((Y ^^^ 4294967295 : Nat) : Int) := u32_xor_nat Y 4294967295 hYl (by omega)
    have hy2 : bits BinOp.xor IntKind.u32 ((Y ^^^ 4294967295 : Nat) : Int) 16777215 = ((stpN 8 b : Nat) : Int) := by
      have h := u32_xor_nat (Y ^^^ 4294967295) 16777215 (xor_lt hYl (by omega)) (by omega)
      rw [← HY.out, item_sum b hb256] at h
      rw [← HY.out]
      exact h
    have cY : ∀ W : World, Calls Try.prog 14 #[.string sb] W fun e w' => e = .returned (.int .u32 (Y : Nat)) ∧ W = w' := fun W =>
      refCRC_X sb Y W (by rw [HSB.out]; show (1 : Nat) ≤ _; omega) (by rw [HSB.out]; exact HY.out)
    have HL : Hid (∀ W W' : World, Below (W.alloc (.cells #[.int .u8 ((b ^^^ 255 : Nat) : Int)] 5)).heap.size (W.alloc (.cells #[.int .u8 ((b ^^^ 255 : Nat) : Int)] 5)) W' →
        (convert 37 9 (.slice (some ⟨W.heap.size, 0, none⟩) 1 1)).run Try.prog W' = .ok (.string sb) W') := fun W W' hb => by
      have hlt : b ^^^ 255 < 256 := Nat.xor_lt_two_pow (n := 8) hb256 (by omega)
      rw [HSB.out]
      refine conv_bytes _ 37 9 5 Try.underlying37 Try.underlying5 Try.underlying9 W.heap.size 0 1 1 [UInt8.ofNat (b ^^^ 255)] rfl (fun i hi => ?_)
      have h0 : i = 0 := by omega
      subst h0
      have h := (Row.new W 5 [.int .u8 ((b ^^^ 255 : Nat) : Int)]).cell 0
      have hx : ((UInt8.ofNat (b ^^^ 255)).toNat : Int) = ((b ^^^ 255 : Nat) : Int) := by
        rw [UInt8.toNat_ofNat', Nat.mod_eq_of_lt hlt]
      have h2 := hb.cell (p := ⟨W.heap.size, 0, none⟩) (by simp)
      rw [Nat.zero_add, h2, h]
      simp only [List.map_cons, List.map_nil, List.getElem?_cons_zero, bv, hx]
    have C3 := Lib.hid c3d
    have C1 := Lib.hid c1
    have CY := Lib.hid cY
    clear c3 c3d c1 cY
    go_upto_region 6 with fail
    go_cut [52] (fun s wx => s = .bool false ∧ Below w.heap.size w wx)
    case first =>
      have H0 := Lib.hid hb0
      clear w0 w1 hat hbit hbig hYl hb0
      go_region_with (first
        | (go_at_call 15; ((with_reducible refine (C3.out _).mono ?_); rintro e w3 ⟨rfl, hb3⟩))
        | (go_at_call 15; ((with_reducible refine (C1.out _).mono ?_); rintro e w4 ⟨rfl, hb4⟩))
        | (go_at_call 14; refine (CY.out _).mono ?_; rintro e w6 ⟨rfl, rfl⟩)
        | (go_at_call 16; refine (Table_any _).mono ?_; rintro e w5 ⟨rfl, hb5⟩; first | (have hcvT := HL.out _ _ hb5) | skip))
      all_goals
        have H3 := H0.out.trans (hb3.mono H0.out.size)
        have H4 := H3.trans (hb4.mono H3.size)
        clear H3 hb3 hb4
        go_wp2_with fail
        go_meet
        first
          | exact ⟨rfl, (H4.trans (hb5.mono H4.size)).alloc (H4.trans (hb5.mono H4.size)).size _⟩
          | exact ⟨rfl, (H4.alloc H4.size _).trans (hb5.mono (H4.alloc H4.size _).size)⟩
    case rest =>
      obtain ⟨rfl, hbx⟩ := hcut
      clear hidx hx8 hcv hy1 hy2 hw8 hb0
      obtain ⟨k, rfl⟩ := Int.eq_ofNat_of_zero_le hat.1
      obtain ⟨r, rfl⟩ := Int.eq_ofNat_of_zero_le hbit.1
      obtain ⟨A, HA⟩ : ∃ A, Hid (a0 ++ a1 = A) := ⟨_, Lib.hid rfl⟩
      rw [HA.out] at hadd
      obtain ⟨cap, w7, hcb, hcell, hfr, hbel, hsz7⟩ := str_bytes (P := Try.prog) wc 9 37 5 A Try.underlying9 Try.underlying37 Try.underlying5
      have hb7 := hbx.trans (hbel.mono hbx.size)
      have hgl : wc.heap.size < w7.heap.size := by omega
      have hAs : A.size = a0.size + a1.size := by rw [← HA.out]; exact HS.out
      have hAl : A.size ≤ 2000 := by omega
      have H7 := Lib.hid (And.intro hcell hfr)
      have HXA : Hid (crcL A.data.toList = X) := by
        rw [← HA.out, ByteArray.data_append, Array.toList_append]; exact HX.out
      have hgw : w.heap.size ≤ wc.heap.size := hbx.size
      have HAs := Lib.hid hAs
      clear hcell hfr hbel hsz7 hbx hAs
      generalize wc.heap.size = g at hcb H7 hgl hgw
      by_cases h0 : A.size = 0
      · have hX0 : X = 0 := by
          rw [← HXA.out, show A.data.toList = [] from List.eq_nil_of_length_eq_zero (by simpa using h0)]
          decide
        subst hX0
        go_wp2_with fail
        go_ret
        exact ⟨rfl, hb7⟩
      · have hi : k % A.size < A.size := Nat.mod_lt _ (by omega)
        have hq0 : (0 : Int) ≤ (k : Int) % (A.size : Int) := by omega
        have hq1 : (k : Int) % (A.size : Int) < (A.size : Int) := by omega
        obtain ⟨c, HC⟩ : ∃ c, Hid (A.data.toList.getD (k % A.size) 0 = c) := ⟨_, Lib.hid rfl⟩
        have hc7 : w7.cell? ⟨g, k % A.size, none⟩ = some (.int .u8 (c.toNat : Int)) := by rw [← HC.out]; exact H7.out.1 _ hi
        have hf7 : w7.frozen? ⟨g, k % A.size, none⟩ = false := H7.out.2 _ hi
        have hN : A.size ≠ 0 := h0
        obtain ⟨d, hdc, hxd⟩ := turn_bit c r
        obtain ⟨sd, HSD⟩ : ∃ sd : ByteArray, Hid (⟨(A.data.toList.set (k % A.size) d).toArray⟩ = sd) := ⟨_, Lib.hid rfl⟩
        have hcd := conv_set (P := Try.prog) w7 37 9 5 Try.underlying37 Try.underlying5 Try.underlying9 g cap (k % A.size) A d hi H7.out.1
        rw [HSD.out] at hcd
        obtain ⟨Z, HZ⟩ : ∃ Z, Hid (crcL (cat [sd]) = Z) := ⟨_, Lib.hid rfl⟩
        have hZX : Z ≠ X := by
          rw [← HZ.out, ← HXA.out, ← HSD.out]
          have e1 : cat [ByteArray.mk (A.data.toList.set (k % A.size) d).toArray] = A.data.toList.set (k % A.size) d := by simp [cat]
          rw [e1]
          have hl : k % A.size < A.data.toList.length := by simpa using hi
          refine crcL_set_ne A.data.toList (k % A.size) d hl ?_
          intro h
          apply hdc
          rw [← h, ← HC.out, List.getD_eq_getElem?_getD, List.getElem?_eq_getElem hl]
          rfl
        have hzb : ((Z : Int) != (X : Int)) = true := by rw [bne_iff_ne]; omega
        have hbs := hb7.setCell (p := ⟨g, k % A.size, none⟩) hgw (.int .u8 (d.toNat : Int))
        have CD : Hid (∀ (W : World) (B : Nat), B = W.heap.size → Calls Try.prog 15 #[.slice (some ⟨B, 0, none⟩) 1 1] (W.alloc (.cells #[.string sd] 9)) fun e w' => e = .returned (.int .u32 (Z : Nat)) ∧ Below W.heap.size W w') :=
          fun W B hB => CRC_new [sd] 1 Z W rfl (by omega) (fun i hi => by
            rcases (by omega : i = 0) with rfl
            show sd.size ≤ _
            rw [← HSD.out]
            have e9 : (ByteArray.mk (A.data.toList.set (k % A.size) d).toArray).size = A.size := by
              show (A.data.toList.set (k % A.size) d).toArray.size = A.data.size
              simp
            rw [e9]; omega) HZ.out _ rfl B hB
        have HBS := Lib.hid hbs
        clear hdc hZX hbs
        go_wp2_with fail
        refine (CD.out _ _ (by simp [World.setCell])).mono ?_
        rintro e w8 ⟨rfl, hb8⟩
        have hb9 := HBS.out.trans (hb8.mono HBS.out.size)
        clear hb8
        go_wp2_with fail
        go_ret
        exact ⟨rfl, hb9⟩
  · clear hsA
    go_wp2_with fail
    go_ret
    exact ⟨rfl, hb0⟩
end Go.Proofs.Ytegpfdbfnilpmaa
