/- The walk of BaseEncodes. -/
import Derived.Test.YtegpfdbfnilpmabRows
import Derived.WalkKit
import Derived.WalkSpells
import Derived.WalkLawsBesides
import Derived.Lib.Hide
import Derived.Test.YtegpfdbfnilpmabRefEnc
namespace Go.Proofs.Ytegpfdbfnilpmab
open Go.RowKit
set_option linter.unusedVariables false

set_option maxHeartbeats 400000 in
theorem Encode_none (fill : Bool) (s : ByteArray) (w : World) :
    Calls Try.prog 9 #[.agg #[.string ⟨#[]⟩, .int .i64 0, .bool fill], .string s] w fun e w' => e = .returned (.string ⟨#[]⟩) ∧ Below w.heap.size w w' := by
  go_enter Try.func9, Try.ntmps9
  go_wp2
  go_ret
  exact ⟨rfl, (Below.refl _ _).alloc (Nat.le_refl _) _⟩

theorem encS_len {L : ByteArray} {k : Nat} {fl : Bool} {s : ByteArray} (hk : k = 4 ∨ k = 6) : (encS L k fl s).size = szA k fl s.size := by
  have hl : s.data.toList.length = s.size := by simp
  show (encL L k fl s.data.toList).toArray.size = _
  rw [List.size_toArray]
  unfold encL
  rw [List.length_append, List.length_map, encN_length, List.length_replicate, hl]
  have h3 : mOf k s.size ≤ szA k fl s.size := by
    unfold mOf szA
    rcases hk with rfl | rfl <;> (split <;> omega)
  omega

set_option maxRecDepth 100000 in
set_option maxHeartbeats 2000000 in
theorem BaseEncodes_walk (a0 : ByteArray) (a1 : Int) (w0 : a0.size ≤ 140737488355328) (w1 : (Lit.int .u8 a1).wf = true) (w : World) :
    Calls Try.prog 3 #[.string a0, .int .u8 a1] w fun e w' => e = .returned (.bool true) ∧ Below w.heap.size w w' := by
  have hk1 : 0 ≤ a1 ∧ a1 ≤ 255 := by simpa [Lit.wf, IntKind.min, IntKind.max, IntKind.signed, IntKind.bits] using w1
  obtain ⟨kd, rfl⟩ := Int.eq_ofNat_of_zero_le hk1.1
  clear w1
  go_enter Try.func3, Try.ntmps3
  go_wp2_with fail
  refine (awake_any _).mono ?_
  rintro e wa ⟨rfl, hb0⟩
  by_cases hbig : a0.size ≤ 1000
  · obtain ⟨L, HL⟩ : ∃ L, Hid (letS (kd % 3) = L) := ⟨_, Lib.hid rfl⟩
    obtain ⟨k, HK⟩ : ∃ k, Hid (bitK (kd % 3) = k) := ⟨_, Lib.hid rfl⟩
    obtain ⟨fl, HF⟩ : ∃ fl, Hid (filB (kd % 3) = fl) := ⟨_, Lib.hid rfl⟩
    have hk46 : Hid (k = 4 ∨ k = 6) := by rw [← HK.out]; exact Lib.hid (bit_k _)
    have HLS : Hid (L.size = 2 ^ k) := by rw [← HL.out, ← HK.out]; exact Lib.hid (let_size _)
    obtain ⟨T, HT⟩ : ∃ T, Hid (encS L k fl a0 = T) := ⟨_, Lib.hid rfl⟩
    have hTs : Hid (szA k fl a0.size = T.size) := by rw [← HT.out]; exact Lib.hid (encS_len hk46.out).symm
    have cE : Hid (∀ W : World, Calls Try.prog 9 #[.agg #[.string L, .int .i64 (k : Int), .bool fl], .string a0] W fun e w' => e = .returned (.string T) ∧ Below W.heap.size W w') := fun W => by
      rw [← HT.out]; exact Encode_S L k fl a0 W hk46.out HLS.out (by omega)
    have cR : Hid (∀ W : World, Calls Try.prog 10 #[.int .i64 ((kd : Int) % 3), .string a0] W fun e w' => e = .returned (.string T) ∧ W = w') := fun W => by
      have h := refEncode_any (kd % 3) a0 W (by omega) (by omega)
      have e : ((kd % 3 : Nat) : Int) = (kd : Int) % 3 := by simp
      rw [e, HL.out, HK.out, HF.out, HT.out] at h
      exact h
    have cZ : Hid (∀ W : World, Calls Try.prog 11 #[.agg #[.string L, .int .i64 (k : Int), .bool fl], .int .i64 (a0.size : Int)] W fun e w' => e = .returned (.int .i64 (T.size : Int)) ∧ Below W.heap.size W w') := fun W => by
      have h := Size_any L k fl a0.size W hk46.out (by omega)
      rw [hTs.out] at h
      exact h
    have cQ : Hid (∀ W : World, Calls Try.prog 13 #[.int .i64 ((kd : Int) % 3)] W fun e w' => e = .returned (.string L) ∧ W = w') := fun W => by
      have h := refLetters_any (kd % 3) W (by omega)
      have e : ((kd % 3 : Nat) : Int) = (kd : Int) % 3 := by simp
      rw [e, HL.out] at h
      exact h
    go_wp2_with fail
    refine (alphabet_mod kd L k fl HL.out HK.out HF.out _).mono ?_
    unfold alph
    rintro e wb ⟨rfl, hb1⟩
    have hb2 := hb0.trans (hb1.mono hb0.size)
    have hbA := hb2.alloc hb2.size (.cells #[.string L, .int .i64 (k : Int), .bool fl] 24)
    have hrow : Row (wb.alloc (.cells #[.string L, .int .i64 (k : Int), .bool fl] 24)) wb.heap.size 24 [.string L, .int .i64 (k : Int), .bool fl] := Row.new wb _ _
    have HA := Lib.hid (And.intro hbA hrow)
    clear hb1 hb2 hbA hrow
    go_wp2_with fail
    refine (cE.out _).mono ?_
    rintro e wc ⟨rfl, hbc⟩
    have HC := Lib.hid (And.intro (HA.out.1.trans (hbc.mono HA.out.1.size)) (HA.out.2.below hbc HA.out.2.lt))
    clear hbc
    go_wp2_with fail
    refine (cR.out _).mono ?_
    rintro e wd ⟨rfl, rfl⟩
    have hg : wb.heap.size ≠ wc.heap.size := Nat.ne_of_lt HC.out.2.lt
    have HD := Lib.hid (And.intro (HC.out.1.alloc HC.out.1.size (.cells #[.string ⟨#[]⟩, .int .i64 0, .bool false] 24)) (And.intro (HC.out.2.alloc (.cells #[.string ⟨#[]⟩, .int .i64 0, .bool false] 24)) (Row.new wc 24 [.string ⟨#[]⟩, .int .i64 0, .bool false])))
    have hd0 := HD.out.2.1.cell 0
    have hd1 := HD.out.2.1.cell 1
    have hd2 := HD.out.2.1.cell 2
    simp only [List.getElem?_cons_zero, List.getElem?_cons_succ] at hd0 hd1 hd2
    go_wp2_with fail
    refine (cZ.out _).mono ?_
    rintro e we ⟨rfl, hbe⟩
    have HE := Lib.hid (And.intro (HD.out.1.trans (hbe.mono HD.out.1.size)) (And.intro (HD.out.2.1.below hbe HD.out.2.1.lt) (HD.out.2.2.below hbe HD.out.2.2.lt)))
    have hd0 := HE.out.2.1.cell 0
    have hd1 := HE.out.2.1.cell 1
    have hd2 := HE.out.2.1.cell 2
    simp only [List.getElem?_cons_zero, List.getElem?_cons_succ] at hd0 hd1 hd2
    clear hbe
    go_wp2_with fail
    refine (Letters_any L k fl _).mono ?_
    rintro e wf ⟨rfl, hbf⟩
    have HG := Lib.hid (And.intro (HE.out.1.trans (hbf.mono HE.out.1.size)) (And.intro (HE.out.2.1.below hbf HE.out.2.1.lt) (HE.out.2.2.below hbf HE.out.2.2.lt)))
    clear hbf
    go_wp2_with fail
    refine (cQ.out _).mono ?_
    rintro e wg ⟨rfl, rfl⟩
    have hn0 := HG.out.2.2.cell 0
    have hn1 := HG.out.2.2.cell 1
    have hn2 := HG.out.2.2.cell 2
    simp only [List.getElem?_cons_zero, List.getElem?_cons_succ] at hn0 hn1 hn2
    go_wp2_with fail
    refine (Encode_none false a0 _).mono ?_
    rintro e wh ⟨rfl, hbh⟩
    have HH := Lib.hid (And.intro (HG.out.1.trans (hbh.mono HG.out.1.size)) (And.intro (HG.out.2.1.below hbh HG.out.2.1.lt) (HG.out.2.2.below hbh HG.out.2.2.lt)))
    have hn0 := HH.out.2.2.cell 0
    have hn1 := HH.out.2.2.cell 1
    have hn2 := HH.out.2.2.cell 2
    simp only [List.getElem?_cons_zero, List.getElem?_cons_succ] at hn0 hn1 hn2
    clear hbh
    go_wp2_with fail
    refine (Size_none ⟨#[]⟩ false a0.size _).mono ?_
    rintro e wi ⟨rfl, hbi⟩
    have HI := Lib.hid (And.intro (HH.out.1.trans (hbi.mono HH.out.1.size)) (HH.out.2.1.below hbi HH.out.2.1.lt))
    have hd0 := HI.out.2.cell 0
    have hd1 := HI.out.2.cell 1
    have hd2 := HI.out.2.cell 2
    simp only [List.getElem?_cons_zero, List.getElem?_cons_succ] at hd0 hd1 hd2
    clear hbi
    go_wp2_with fail
    refine (Size_neg L k fl (-5) _ hk46.out (by omega)).mono ?_
    rintro e wj ⟨rfl, hbj⟩
    have HJ := Lib.hid (HI.out.1.trans (hbj.mono HI.out.1.size))
    clear hbj
    go_wp2_with fail
    go_ret
    exact ⟨rfl, HJ.out⟩
  · go_wp2_with fail
    go_ret
    exact ⟨rfl, hb0⟩
end Go.Proofs.Ytegpfdbfnilpmab
