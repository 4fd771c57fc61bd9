/- The walk of BaseBack. -/
import Derived.Test.YtegpfdbfnilpmabRows
import Derived.WalkKit
import Derived.WalkSpells
import Derived.WalkLawsBesides
import Derived.Lib.Hide
import Derived.Test.YtegpfdbfnilpmabBase
namespace Go.Proofs.Ytegpfdbfnilpmab
open Go.RowKit
set_option linter.unusedVariables false

theorem xor_byte (c : UInt8) (b : Nat) (hb : b < 256) : ∃ d : UInt8, bits BinOp.xor IntKind.u8 (c.toNat : Int) (b : Int) = (d.toNat : Int) ∧ (d = c ↔ b = 0) := by
  have hc := c.toNat_lt
  have hx : c.toNat ^^^ b < 256 := Nat.xor_lt_two_pow (n := 8) hc hb
  have ed : (UInt8.ofNat (c.toNat ^^^ b)).toNat = c.toNat ^^^ b := by
    rw [UInt8.toNat_ofNat']; exact Nat.mod_eq_of_lt hx
  refine ⟨UInt8.ofNat (c.toNat ^^^ b), by rw [ed]; exact u8_xor_nat _ _ hc hb, fun h => ?_, fun h => ?_⟩
  · have h1 := congrArg UInt8.toNat h
    rw [ed] at h1
    have h2 := congrArg (c.toNat ^^^ ·) h1
    simp only [← Nat.xor_assoc, Nat.xor_self, Nat.zero_xor] at h2
    exact h2
  · subst h; simp

theorem set_same (T : ByteArray) (i : Nat) (c d : UInt8) (b : Nat) (hi : i < T.size) (hc : T.data.toList.getD i 0 = c) (h : d = c ↔ b = 0) : (⟨(T.data.toList.set i d).toArray⟩ : ByteArray) = T ↔ b = 0 := by
  have hl : i < T.data.toList.length := by simpa using hi
  have hg : T.data.toList[i] = c := by rw [← hc, List.getD_eq_getElem?_getD, List.getElem?_eq_getElem hl]; rfl
  rw [← h]
  constructor
  · intro e
    have e2 : T.data.toList.set i d = T.data.toList := by
      have := congrArg (fun x : ByteArray => x.data.toList) e
      simpa using this
    have e3 := congrArg (fun l : List UInt8 => l[i]?) e2
    simp only [List.getElem?_set, if_pos hl, if_true, List.getElem?_eq_getElem hl, hg] at e3
    exact Option.some.inj e3
  · intro e
    have e2 : T.data.toList.set i d = T.data.toList := by
      rw [e, ← hg]; exact List.set_getElem_self hl
    rw [e2]

set_option maxRecDepth 100000 in
set_option maxHeartbeats 2000000 in
theorem BaseBack_walk (a0 : ByteArray) (a1 : Int) (a2 : Int) (a3 : Int) (w0 : a0.size ≤ 140737488355328) (w1 : (Lit.int .u8 a1).wf = true) (w2 : (Lit.int .u8 a2).wf = true) (w3 : (Lit.int .u8 a3).wf = true) (w : World) :
    Calls Try.prog 5 #[.string a0, .int .u8 a1, .int .u8 a2, .int .u8 a3] w fun e w' => e = .returned (.bool true) ∧ Below w.heap.size w w' := by
  have hk1 : 0 ≤ a1 ∧ a1 ≤ 255 := by simpa [Lit.wf, IntKind.min, IntKind.max, IntKind.signed, IntKind.bits] using w1
  have hk2 : 0 ≤ a2 ∧ a2 ≤ 255 := by simpa [Lit.wf, IntKind.min, IntKind.max, IntKind.signed, IntKind.bits] using w2
  have hk3 : 0 ≤ a3 ∧ a3 ≤ 255 := by simpa [Lit.wf, IntKind.min, IntKind.max, IntKind.signed, IntKind.bits] using w3
  obtain ⟨kd, rfl⟩ := Int.eq_ofNat_of_zero_le hk1.1
  obtain ⟨ak, rfl⟩ := Int.eq_ofNat_of_zero_le hk2.1
  obtain ⟨by_, rfl⟩ := Int.eq_ofNat_of_zero_le hk3.1
  clear w1 w2 w3
  go_enter Try.func5, Try.ntmps5
  go_wp2_with fail
  refine (awake_any _).mono ?_
  rintro e wa ⟨rfl, hb0⟩
  by_cases hbig : a0.size ≤ 1000
  · obtain ⟨L, HL⟩ : ∃ L, Hid (letS (kd % 3) = L) := ⟨_, Lib.hid rfl⟩
    obtain ⟨k, HK⟩ : ∃ k, Hid (bitK (kd % 3) = k) := ⟨_, Lib.hid rfl⟩
    obtain ⟨fl, HF⟩ : ∃ fl, Hid (filB (kd % 3) = fl) := ⟨_, Lib.hid rfl⟩
    have hk46 : Hid (k = 4 ∨ k = 6) := by rw [← HK.out]; exact Lib.hid (bit_k _)
    have HLS : Hid (L.size = 2 ^ k) := by rw [← HL.out, ← HK.out]; exact Lib.hid (let_size _)
    obtain ⟨T, HT⟩ : ∃ T, Hid (encS L k fl a0 = T) := ⟨_, Lib.hid rfl⟩
    have HB : Hid (decS L k T = a0) := by
      rw [← HT.out, ← HL.out, ← HK.out, ← HF.out]; exact Lib.hid (back _ _)
    have hTs : T.size ≤ 100000 := by rw [← HT.out]; exact encS_size hk46.out (by omega)
    have cE : Hid (∀ W : World, Calls Try.prog 9 #[.agg #[.string L, .int .i64 (k : Int), .bool fl], .string a0] W fun e w' => e = .returned (.string T) ∧ Below W.heap.size W w') := fun W => by
      rw [← HT.out]; exact Encode_S L k fl a0 W hk46.out HLS.out (by omega)
    have cD : Hid (∀ W : World, Calls Try.prog 14 #[.agg #[.string L, .int .i64 (k : Int), .bool fl], .string T] W fun e w' => e = .returned (.tuple #[.string a0, .int .i64 0]) ∧ Below W.heap.size W w') := fun W => by
      have h := Decode_ok L k fl T W hk46.out HLS.out hTs (by rw [HB.out, HT.out])
      rw [HB.out] at h
      exact h
    go_wp2_with fail
    refine (alphabet_mod kd L k fl HL.out HK.out HF.out _).mono ?_
    unfold alph
    rintro e wb ⟨rfl, hb1⟩
    have hb2 := hb0.trans (hb1.mono hb0.size)
    have hbA := hb2.alloc hb2.size (.cells #[.string L, .int .i64 (k : Int), .bool fl] 24)
    have hrow : Row (wb.alloc (.cells #[.string L, .int .i64 (k : Int), .bool fl] 24)) wb.heap.size 24 [.string L, .int .i64 (k : Int), .bool fl] := Row.new wb _ _
    have HA := Lib.hid (And.intro hbA hrow)
    clear hb1 hb2 hbA hrow
    go_wp2_with fail
    refine (cE.out _).mono ?_
    rintro e wc ⟨rfl, hbc⟩
    have hrow := HA.out.2.below hbc (by simp)
    have hbC := HA.out.1.trans (hbc.mono HA.out.1.size)
    have hc0 := hrow.cell 0
    have hc1 := hrow.cell 1
    have hc2 := hrow.cell 2
    simp only [List.getElem?_cons_zero, List.getElem?_cons_succ] at hc0 hc1 hc2
    have HR := Lib.hid hrow
    clear hbc hrow
    go_wp2_with fail
    refine (cD.out _).mono ?_
    rintro e wd ⟨rfl, hbd⟩
    have hrow := HR.out.below hbd HR.out.lt
    have hbD := hbC.trans (hbd.mono hbC.size)
    have hd0 := hrow.cell 0
    have hd1 := hrow.cell 1
    have hd2 := hrow.cell 2
    simp only [List.getElem?_cons_zero, List.getElem?_cons_succ] at hd0 hd1 hd2
    have HRD := Lib.hid hrow
    clear hbd hrow hc0 hc1 hc2
    obtain ⟨cap, w7, hcb, hcell, hfr, hbel, hsz7⟩ := str_bytes (P := Try.prog) wd 9 37 5 T Try.underlying9 Try.underlying37 Try.underlying5
    have hb7 := hbD.trans (hbel.mono hbD.size)
    have hrow7 := HRD.out.below hbel HRD.out.lt
    have hg7 : wb.heap.size ≠ wd.heap.size := Nat.ne_of_lt HRD.out.lt
    have hgw : w.heap.size ≤ wd.heap.size := hbD.size
    have H7 := Lib.hid (And.intro hcell (And.intro hfr (And.intro hrow7 (And.intro hg7 (And.intro hgw hb7)))))
    clear hcell hfr hbel hsz7 hbD hrow7 hg7 hgw hb7
    generalize hgg : wd.heap.size = g at hcb H7
    have HGG := Lib.hid hgg
    clear hgg
    by_cases h0 : T.size = 0
    · have hs0 : a0.toList = [] := by
        have h1 := decS_size L k (by have := hk46.out; omega) T
        rw [HB.out] at h1
        rw [ByteArray.toList_eq]
        have h2 : a0.size = 0 := by omega
        exact List.eq_nil_of_length_eq_zero (by rw [Array.length_toList]; exact h2)
      go_wp2_with fail
      go_ret
      exact ⟨rfl, H7.out.2.2.2.2.2⟩
    · have hi : ak % T.size < T.size := Nat.mod_lt _ (by omega)
      have hq0 : (0 : Int) ≤ (ak : Int) % (T.size : Int) := by omega
      have hq1 : (ak : Int) % (T.size : Int) < (T.size : Int) := by omega
      obtain ⟨c, HC⟩ : ∃ c, Hid (T.data.toList.getD (ak % T.size) 0 = c) := ⟨_, Lib.hid rfl⟩
      have hc7 : w7.cell? ⟨g, ak % T.size, none⟩ = some (.int .u8 (c.toNat : Int)) := by rw [← HC.out]; exact H7.out.1 _ hi
      have hf7 : w7.frozen? ⟨g, ak % T.size, none⟩ = false := H7.out.2.1 _ hi
      have hN : T.size ≠ 0 := h0
      obtain ⟨d, hdx, hdc⟩ := xor_byte c by_ (by omega)
      obtain ⟨sd, HSD⟩ : ∃ sd : ByteArray, Hid (⟨(T.data.toList.set (ak % T.size) d).toArray⟩ = sd) := ⟨_, Lib.hid rfl⟩
      have hcd := conv_set (P := Try.prog) w7 37 9 5 Try.underlying37 Try.underlying5 Try.underlying9 g cap (ak % T.size) T d hi H7.out.1
      rw [HSD.out] at hcd
      have hrow8 := (H7.out.2.2.1.far (p := ⟨g, ak % T.size, none⟩) H7.out.2.2.2.1 (.int .u8 (d.toNat : Int)))
      have hb8 := H7.out.2.2.2.2.2.setCell (p := ⟨g, ak % T.size, none⟩) H7.out.2.2.2.2.1 (.int .u8 (d.toNat : Int))
      have he0 := hrow8.cell 0
      have he1 := hrow8.cell 1
      have he2 := hrow8.cell 2
      simp only [List.getElem?_cons_zero, List.getElem?_cons_succ] at he0 he1 he2
      have H8 := Lib.hid hb8
      have hsame : Hid (sd = T ↔ by_ = 0) := by
        rw [← HSD.out]
        exact set_same T (ak % T.size) c d by_ hi HC.out hdc
      have hsds : sd.size ≤ 100000 := by
        rw [← HSD.out]
        show (T.data.toList.set (ak % T.size) d).toArray.size ≤ _
        simp
        omega
      clear hrow8 hb8 hdc
      by_cases hdec : encS L k fl (decS L k sd) = sd
      · obtain ⟨D, HD⟩ : ∃ D, Hid (decS L k sd = D) := ⟨_, Lib.hid rfl⟩
        have cS : Hid (∀ W : World, Calls Try.prog 14 #[.agg #[.string L, .int .i64 (k : Int), .bool fl], .string sd] W fun e w' => e = .returned (.tuple #[.string D, .int .i64 0]) ∧ Below W.heap.size W w') := fun W => by
          rw [← HD.out]; exact Decode_ok L k fl sd W hk46.out HLS.out hsds hdec
        by_cases hby : by_ = 0
        · have hTT := hsame.out.mpr hby
          have hDa : D = a0 := by rw [← HD.out, hTT, HB.out]
          have hv : (D.toList == a0.toList) = true := by rw [hDa]; simp
          have hz : ((by_ : Int) == 0) = true := by simp; omega
          clear hTT hDa hdec hby
          go_wp2_with fail
          refine (cS.out _).mono ?_
          rintro e w9 ⟨rfl, hb9⟩
          have hbE := H8.out.trans (hb9.mono H8.out.size)
          clear hb9
          go_wp2_with fail
          go_ret
          exact ⟨rfl, hbE⟩
        · have hDa : D ≠ a0 := fun e => by
            apply hby
            apply hsame.out.mp
            rw [← hdec, HD.out, e, HT.out]
          have hv : (D.toList == a0.toList) = false := by
            rw [beq_eq_false_iff_ne]
            intro e
            apply hDa
            rw [ByteArray.toList_eq, ByteArray.toList_eq] at e
            exact ByteArray.ext (Array.ext' e)
          have hz : ((by_ : Int) == 0) = false := by simp; omega
          clear hDa hdec hby
          go_wp2_with fail
          refine (cS.out _).mono ?_
          rintro e w9 ⟨rfl, hb9⟩
          have hbE := H8.out.trans (hb9.mono H8.out.size)
          clear hb9
          go_wp2_with fail
          go_ret
          exact ⟨rfl, hbE⟩
      · have cS : Hid (∀ W : World, Calls Try.prog 14 #[.agg #[.string L, .int .i64 (k : Int), .bool fl], .string sd] W fun e w' => e = .returned (.tuple #[.string ⟨#[]⟩, .int .i64 4]) ∧ Below W.heap.size W w') :=
          fun W => Decode_bad L k fl sd W hk46.out HLS.out hsds hdec
        clear hdec
        go_wp2_with fail
        refine (cS.out _).mono ?_
        rintro e w9 ⟨rfl, hb9⟩
        have hbE := H8.out.trans (hb9.mono H8.out.size)
        clear hb9
        go_wp2_with fail
        go_ret
        exact ⟨rfl, hbE⟩
  · go_wp2_with fail
    go_ret
    exact ⟨rfl, hb0⟩
end Go.Proofs.Ytegpfdbfnilpmab
