/- The walk of BaseDecodes. -/
import Derived.Test.YtegpfdbfnilpmabRows
import Derived.WalkKit
import Derived.WalkSpells
import Derived.WalkLawsBesides
import Derived.Lib.Hide
import Derived.Deep.QuietTactic
import Derived.BigQuiet
import Derived.Test.YtegpfdbfnilpmabRefDec
namespace Go.Proofs.Ytegpfdbfnilpmab
open Go.RowKit
set_option linter.unusedVariables false

set_option maxHeartbeats 400000 in
theorem Encode_zero (fill : Bool) (s : ByteArray) (w : World) :
    Calls Try.prog 9 #[.agg #[.string ⟨#[]⟩, .int .i64 0, .bool fill], .string s] w fun e w' => e = .returned (.string ⟨#[]⟩) ∧ Below w.heap.size w w' := by
  go_enter Try.func9, Try.ntmps9
  go_wp2
  go_ret
  exact ⟨rfl, (Below.refl _ _).alloc (Nat.le_refl _) _⟩

set_option maxHeartbeats 1000000 in
theorem bytesOf_none (t : ByteArray) (w : World) (hs : t.size ≤ 100000) :
    Calls Try.prog 21 #[.agg #[.string ⟨#[]⟩, .int .i64 0, .bool false], .string t] w fun e w' => e = .returned (.string ⟨#[]⟩) ∧ Below w.heap.size w w' := by
  have hr1 := Row.new w 24 (alphL ⟨#[]⟩ 0 false)
  have hb1 := (Below.refl w.heap.size w).alloc (Nat.le_refl _) (.cells (alphL ⟨#[]⟩ 0 false).toArray 24)
  have H1 := Lib.hid (And.intro hr1 hb1)
  have hcv : ∀ W : World, (convert 37 9 (.slice none 0 0)).run Try.prog W = .ok (.string ⟨#[]⟩) W := fun W =>
    run_convert_bytes_nil W 37 5 Try.underlying37 Try.underlying5 0 0 9 Try.underlying9
  clear hr1 hb1
  go_enter Try.func21, Try.ntmps21
  go_wp2_with fail
  go_step3
  go_wp2_with fail
  go_step3
  go_wp2_with fail
  go_loopw [5, 12] (fun v i wr => i = .int .i64 0 ∧ v = .slice none 0 0 ∧ Hid (Row wr w.heap.size 24 (alphL ⟨#[]⟩ 0 false) ∧ Below w.heap.size w wr)) (fun _ i _ => t.size - (intOf i).toNat)
  case atStart => exact ⟨rfl, rfl, H1.out⟩
  case round =>
    obtain ⟨rfl, rfl, HW⟩ := hrel
    by_cases h0 : 0 < t.size
    · have hal0 := HW.out.1.cell 0
      simp only [alphL, List.getElem?_cons_zero] at hal0
      have hi0' : (0 : Int) ≤ (0 : Int) := Int.le_refl _
      have hi1 : (0 : Int) < (t.size : Int) := by omega
      have cI : Hid (∀ W : World, Calls Try.prog 23 #[.string ⟨#[]⟩, .int .u8 (t[0]).toNat] W fun e w' => e = .returned (.int .i64 (-1)) ∧ w' = W) := fun W =>
        (IndexByte_any ⟨#[]⟩ t[0] W).mono fun _ _ hh => ⟨hh.1, hh.2.symm⟩
      go_wp2_with fail
      go_quiet ((go_at_call 23; exact Calls.quiet_of_same (cI.out _)))
      go_wp2_with fail
      try rw [Exit.noGoto_ret]
      go_ret
      exact ⟨rfl, below_drawn HW.out.2 _⟩
    · go_wp2_with fail
      try rw [Exit.noGoto_ret]
      go_ret
      exact ⟨rfl, HW.out.2⟩

set_option maxHeartbeats 400000 in
theorem Decode_none (t : ByteArray) (w : World) (hs : t.size ≤ 100000) :
    Calls Try.prog 14 #[.agg #[.string ⟨#[]⟩, .int .i64 0, .bool false], .string t] w fun e w' => e = .returned (.tuple #[.string ⟨#[]⟩, .int .i64 (if t.size = 0 then 0 else 4)]) ∧ Below w.heap.size w w' := by
  have hb : Below w.heap.size w (w.alloc (.cells (alphL ⟨#[]⟩ 0 false).toArray 24)) := (Below.refl _ _).alloc (Nat.le_refl _) _
  have HR : Hid (Row (w.alloc (.cells (alphL ⟨#[]⟩ 0 false).toArray 24)) w.heap.size 24 (alphL ⟨#[]⟩ 0 false)) := Row.new w _ _
  have HB := Lib.hid hb
  clear hb
  have hl : t.toList.length = t.size := by rw [ByteArray.toList_eq]; simp
  rcases Nat.eq_zero_or_pos t.size with h0 | h0
  case' inl =>
    have ht : t.toList = [] := List.eq_nil_of_length_eq_zero (by omega)
    rw [if_pos h0]
    clear h0
  case' inr =>
    have ht : t.toList.isEmpty = false := by
      rw [Bool.eq_false_iff, ne_eq, List.isEmpty_iff]
      intro e; rw [e] at hl; simp at hl; omega
    have ht2 : (([] : List UInt8) == t.toList) = false := by
      rw [beq_eq_false_iff_ne]
      intro e; rw [← e] at hl; simp at hl; omega
    rw [if_neg (by omega)]
  all_goals
    clear hl
    go_enter Try.func14, Try.ntmps14
    go_wp2_with fail
    refine (bytesOf_none t _ hs).mono ?_
    rintro e w1 ⟨rfl, hb1⟩
    have hr1 := HR.out.below hb1 (by simp)
    have hb2 := HB.out.trans (hb1.mono (by simp))
    have hal0 := hr1.cell 0
    have hal1 := hr1.cell 1
    have hal2 := hr1.cell 2
    simp only [alphL, List.getElem?_cons_zero, List.getElem?_cons_succ] at hal0 hal1 hal2
    clear hb1 hr1
    go_wp2_with fail
    refine (Encode_zero false ⟨#[]⟩ _).mono ?_
    rintro e w2 ⟨rfl, hb3⟩
    have hb4 := hb2.trans (hb3.mono hb2.size)
    clear hb3
    go_wp2_with fail
    go_ret2
    exact ⟨rfl, hb4⟩

set_option maxRecDepth 100000 in
set_option maxHeartbeats 2000000 in
theorem BaseDecodes_walk (a0 : ByteArray) (a1 : Int) (w0 : a0.size ≤ 140737488355328) (w1 : (Lit.int .u8 a1).wf = true) (w : World) :
    Calls Try.prog 4 #[.string a0, .int .u8 a1] w fun e w' => e = .returned (.bool true) ∧ Below w.heap.size w w' := by
  have hk1 : 0 ≤ a1 ∧ a1 ≤ 255 := by simpa [Lit.wf, IntKind.min, IntKind.max, IntKind.signed, IntKind.bits] using w1
  obtain ⟨kd, rfl⟩ := Int.eq_ofNat_of_zero_le hk1.1
  clear w1
  go_enter Try.func4, Try.ntmps4
  go_wp2_with fail
  refine (awake_any _).mono ?_
  rintro e wa ⟨rfl, hb0⟩
  by_cases hbig : a0.size ≤ 1000
  · obtain ⟨L, HL⟩ : ∃ L, Hid (letS (kd % 3) = L) := ⟨_, Lib.hid rfl⟩
    obtain ⟨k, HK⟩ : ∃ k, Hid (bitK (kd % 3) = k) := ⟨_, Lib.hid rfl⟩
    obtain ⟨fl, HF⟩ : ∃ fl, Hid (filB (kd % 3) = fl) := ⟨_, Lib.hid rfl⟩
    have hk46 : Hid (k = 4 ∨ k = 6) := by rw [← HK.out]; exact Lib.hid (bit_k _)
    have HLS : Hid (L.size = 2 ^ k) := by rw [← HL.out, ← HK.out]; exact Lib.hid (let_size _)
    obtain ⟨D, HD⟩ : ∃ D, Hid (decS L k a0 = D) := ⟨_, Lib.hid rfl⟩
    have cR : Hid (∀ W : World, Calls Try.prog 15 #[.int .i64 ((kd : Int) % 3), .string a0] W fun e w' => (∃ (x : ByteArray) (ok : Bool), e = .returned (.tuple #[.string x, .bool ok]) ∧ Hid ((ok = true → x = D ∧ encS L k fl D = a0) ∧ (ok = false → encS L k fl D ≠ a0))) ∧ Below W.heap.size W w') := fun W => by
      have h := refDecode_any (kd % 3) a0 W (by omega) (by omega)
      have e : ((kd % 3 : Nat) : Int) = (kd : Int) % 3 := by simp
      rw [e, HL.out, HK.out, HF.out, HD.out] at h
      exact h
    have cN : Hid (∀ W : World, Calls Try.prog 14 #[.agg #[.string ⟨#[]⟩, .int .i64 0, .bool false], .string a0] W fun e w' => e = .returned (.tuple #[.string ⟨#[]⟩, .int .i64 (if a0.size = 0 then 0 else 4)]) ∧ Below W.heap.size W w') := fun W => Decode_none a0 W (by omega)
    have hl : a0.toList.length = a0.size := by rw [ByteArray.toList_eq]; simp
    obtain ⟨f, hf, hfe⟩ : ∃ f : Int, Hid ((if a0.size = 0 then 0 else 4 : Int) = f) ∧ ((f == 0) = a0.toList.isEmpty) := by
      refine ⟨_, Lib.hid rfl, ?_⟩
      rcases Nat.eq_zero_or_pos a0.size with h | h
      · rw [if_pos h, List.eq_nil_of_length_eq_zero (by omega : a0.toList.length = 0)]; rfl
      · rw [if_neg (by omega)]
        have : a0.toList.isEmpty = false := by
          rw [Bool.eq_false_iff, ne_eq, List.isEmpty_iff]
          intro e; rw [e] at hl; simp at hl; omega
        rw [this]; rfl
    rw [hf.out] at cN
    clear hl
    by_cases hdec : encS L k fl D = a0
    · have cD : Hid (∀ W : World, Calls Try.prog 14 #[.agg #[.string L, .int .i64 (k : Int), .bool fl], .string a0] W fun e w' => e = .returned (.tuple #[.string D, .int .i64 0]) ∧ Below W.heap.size W w') := fun W => by
        have h := Decode_ok L k fl a0 W hk46.out HLS.out (by omega) (by rw [HD.out]; exact hdec)
        rw [HD.out] at h
        exact h
      have HDEC := Lib.hid hdec
      clear hdec
      go_wp2_with fail
      refine (alphabet_mod kd L k fl HL.out HK.out HF.out _).mono ?_
      unfold alph
      rintro e wb ⟨rfl, hb1⟩
      have hb2 := hb0.trans (hb1.mono hb0.size)
      clear hb1
      go_wp2_with fail
      refine (cD.out _).mono ?_
      rintro e wc ⟨rfl, hbc⟩
      have hb3 := hb2.trans (hbc.mono hb2.size)
      clear hbc hb2
      go_wp2_with fail
      refine (cR.out _).mono ?_
      rintro e wd ⟨⟨x, ok, rfl, HOK⟩, hbd⟩
      have hb4 := hb3.trans (hbd.mono hb3.size)
      clear hbd hb3
      cases ok with
      | false => exact absurd HDEC.out (HOK.out.2 rfl)
      | true =>
        have hx := (HOK.out.1 rfl).1
        subst hx
        go_wp2_with fail
        have hb5 := hb4.alloc hb4.size (.cells #[.string ⟨#[]⟩, .int .i64 0, .bool false] 24)
        refine (cN.out _).mono ?_
        rintro e we ⟨rfl, hbe⟩
        have hb6 := hb5.trans (hbe.mono hb5.size)
        have HB6 := Lib.hid hb6
        clear hbe hb5 hb6
        go_wp2_with fail
        go_ret
        exact ⟨rfl, HB6.out⟩
    · have cD : Hid (∀ W : World, Calls Try.prog 14 #[.agg #[.string L, .int .i64 (k : Int), .bool fl], .string a0] W fun e w' => e = .returned (.tuple #[.string ⟨#[]⟩, .int .i64 4]) ∧ Below W.heap.size W w') := fun W => by
        exact Decode_bad L k fl a0 W hk46.out HLS.out (by omega) (by rw [HD.out]; exact hdec)
      have HDEC := Lib.hid hdec
      clear hdec
      go_wp2_with fail
      refine (alphabet_mod kd L k fl HL.out HK.out HF.out _).mono ?_
      unfold alph
      rintro e wb ⟨rfl, hb1⟩
      have hb2 := hb0.trans (hb1.mono hb0.size)
      clear hb1
      go_wp2_with fail
      refine (cD.out _).mono ?_
      rintro e wc ⟨rfl, hbc⟩
      have hb3 := hb2.trans (hbc.mono hb2.size)
      clear hbc hb2
      go_wp2_with fail
      refine (cR.out _).mono ?_
      rintro e wd ⟨⟨x, ok, rfl, HOK⟩, hbd⟩
      have hb4 := hb3.trans (hbd.mono hb3.size)
      clear hbd hb3
      cases ok with
      | true => exact absurd (HOK.out.1 rfl).2 HDEC.out
      | false =>
        go_wp2_with fail
        have hb5 := hb4.alloc hb4.size (.cells #[.string ⟨#[]⟩, .int .i64 0, .bool false] 24)
        refine (cN.out _).mono ?_
        rintro e we ⟨rfl, hbe⟩
        have hb6 := hb5.trans (hbe.mono hb5.size)
        have HB6 := Lib.hid hb6
        clear hbe hb5 hb6
        go_wp2_with fail
        go_ret
        exact ⟨rfl, HB6.out⟩
  · go_wp2_with fail
    go_ret
    exact ⟨rfl, hb0⟩
end Go.Proofs.Ytegpfdbfnilpmab
