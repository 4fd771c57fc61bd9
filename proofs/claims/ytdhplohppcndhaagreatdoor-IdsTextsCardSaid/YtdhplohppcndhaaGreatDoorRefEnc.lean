/- The contracts of the document's writing, bit by bit. -/
import Derived.Test.YtdhplohppcndhaaGreatDoorRows
import Derived.WalkKit
import Derived.WalkSpells
import Derived.WalkLawsBesides
import Derived.Lib.Hide
import Derived.Test.YtdhplohppcndhaaGreatDoorBase
namespace Go.Proofs.YtdhplohppcndhaaGreatDoor
open Go.RowKit
set_option linter.unusedVariables false

/-- The bit of a text at a place, from the highest one on; nought behind it. -/
def bitOf (s : ByteArray) (p : Nat) : Nat := if p / 8 < s.size then (s.data.toList.getD (p / 8) 0).toNat / 2 ^ (7 - p % 8) % 2 else 0

theorem bitOf_lt (s : ByteArray) (p : Nat) : bitOf s p < 2 := by unfold bitOf; split <;> omega

set_option maxRecDepth 20000 in
set_option maxHeartbeats 400000 in
theorem bit_any (s : ByteArray) (p : Nat) (w : World) (hs : s.size ≤ 100000) (hp : p ≤ 1000000) :
    Calls Tryz.prog 43 #[.string s, .int .i64 p] w fun e w' => e = .returned (.int .i64 (bitOf s p : Nat)) ∧ w = w' := by
  by_cases hlt : p / 8 < s.size
  · have hb : bitOf s p = (s.data.toList.getD (p / 8) 0).toNat / 2 ^ (7 - p % 8) % 2 := by unfold bitOf; rw [if_pos hlt]
    have HB := Lib.hid hb
    obtain ⟨x, HX⟩ : ∃ x, Hid (s.data.toList.getD (p / 8) 0 = x) := ⟨_, Lib.hid rfl⟩
    have hx := UInt8.toNat_lt x
    have hidx := run_index_str (P := Tryz.prog) 9 s (p / 8) Tryz.underlying9 hlt
    rw [HX.out] at hidx
    have hdc : ((p / 8 : Nat) : Int) = (p : Int) / 8 := by simp
    rw [hdc] at hidx
    clear hb hdc
    go_enter Tryz.func43, Tryz.ntmps43
    go_wp2
    go_loop [5, 6] (fun n i => ∃ j : Nat, j ≤ 7 - p % 8 ∧ i = .int .i64 j ∧ n = .int .i64 ((x.toNat / 2 ^ j : Nat) : Int)) (fun _ i => 7 - (intOf i).toNat)
    case atStart => exact ⟨0, Nat.zero_le _, rfl, by simp⟩
    case round =>
      obtain ⟨j, hj, rfl, rfl⟩ := hrel
      obtain ⟨m, HM⟩ : ∃ m, Hid (x.toNat / 2 ^ j = m) := ⟨_, Lib.hid rfl⟩
      have hm : m < 256 := by rw [← HM.out]; exact Nat.lt_of_le_of_lt (Nat.div_le_self _ _) hx
      rw [HM.out]
      have hnext : ((x.toNat / 2 ^ (j + 1) : Nat) : Int) = (m : Int) / 2 := by
        rw [Nat.pow_succ, ← Nat.div_div_eq_div_mul, HM.out]; simp
      have HN := Lib.hid hnext
      clear hnext
      by_cases hlt2 : j < 7 - p % 8
      · go_wp2
        go_round
        case rel => exact ⟨j + 1, by omega, by go_num, by rw [HN.out]⟩
        case measure => simp [intOf]; omega
      · have hj7 : j = 7 - p % 8 := by omega
        have HJ := Lib.hid hj7
        clear hj7
        go_wp2
        go_ret
        refine ⟨ret_int ?_, rfl⟩
        rw [HB.out, HX.out, ← HJ.out, HM.out]
        omega
  · have hb : bitOf s p = 0 := by unfold bitOf; rw [if_neg hlt]
    rw [hb]
    clear hb
    go_enter Tryz.func43, Tryz.ntmps43
    go_wp2
    go_ret
    exact ⟨rfl, rfl⟩

/-- A byte of a number. -/
theorem getL_byte (l : List UInt8) (q : Nat) (hq : q < l.length) : (l.getD q 0).toNat = getL l / 256 ^ (l.length - 1 - q) % 256 := by
  have e : l = l.take q ++ (l[q] :: l.drop (q + 1)) := by simp
  have hd : (l.drop (q + 1)).length = l.length - 1 - q := by rw [List.length_drop]; omega
  have hg : l.getD q 0 = l[q] := by rw [List.getD_eq_getElem?_getD, List.getElem?_eq_getElem hq]; rfl
  have h1 : getL l = (getL (l.take q) * 256 + (l[q]).toNat) * 256 ^ (l.length - 1 - q) + getL (l.drop (q + 1)) := by
    have h2 : l.take q ++ (l[q] :: l.drop (q + 1)) = (l.take q ++ [l[q]]) ++ l.drop (q + 1) := by simp
    conv => lhs; rw [e, h2]
    rw [getL_append, getL_snoc, hd]
  have hlt := getL_lt (l.drop (q + 1))
  rw [hd] at hlt
  have hp : 0 < 256 ^ (l.length - 1 - q) := Nat.pow_pos (by omega)
  rw [hg, h1, Nat.mul_comm _ (256 ^ (l.length - 1 - q)), Nat.mul_add_div hp, Nat.div_eq_of_lt hlt]
  have := (l[q]).toNat_lt
  omega

theorem half0 (V a b P : Nat) (hP : P = a + b) (hb : 1 ≤ b) : V * 2 ^ P / 2 ^ a % 2 = 0 := by
  subst hP
  obtain ⟨c, rfl⟩ : ∃ c, b = c + 1 := ⟨b - 1, by omega⟩
  rw [Nat.pow_add, Nat.mul_left_comm, Nat.mul_div_cancel_left _ (Nat.pow_pos (by omega)), Nat.pow_succ, ← Nat.mul_assoc]
  omega

/-- A bit of the number whose digits are the letters' numbers. -/
theorem bitOf_num {k : Nat} (hk : 0 < k) (s : ByteArray) (p : Nat) (hp : p < k * mOf k s.size) :
    bitOf s p = getL s.data.toList * 2 ^ padOf k s.size / 2 ^ (k * mOf k s.size - 1 - p) % 2 := by
  have hl : s.data.toList.length = s.size := by simp
  have hT := padOf_eq hk s.size
  rw [hT] at hp ⊢
  unfold bitOf
  by_cases h : p / 8 < s.size
  · rw [if_pos h, getL_byte s.data.toList (p / 8) (by omega), hl]
    have e1 : 8 * s.size + padOf k s.size - 1 - p = padOf k s.size + (8 * s.size - 1 - p) := by omega
    rw [e1, Nat.pow_add, Nat.mul_comm (getL s.data.toList), Nat.mul_div_mul_left _ _ (Nat.pow_pos (by omega))]
    have e2 : 8 * s.size - 1 - p = 8 * (s.size - 1 - p / 8) + (7 - p % 8) := by omega
    rw [e2, Nat.pow_add, ← Nat.div_div_eq_div_mul, Nat.pow_mul]
    have e3 : (2 : Nat) ^ 8 = 256 := by decide
    rw [e3]
    generalize getL s.data.toList / 256 ^ (s.size - 1 - p / 8) = y
    have e4 : (256 : Nat) = 2 ^ (7 - p % 8) * 2 ^ (1 + p % 8) := by rw [← Nat.pow_add, show 7 - p % 8 + (1 + p % 8) = 8 by omega]
    rw [e4, Nat.mod_mul_right_div_self]
    exact Nat.mod_mod_of_dvd _ ⟨2 ^ (p % 8), by rw [Nat.pow_add]⟩
  · rw [if_neg h]
    exact (half0 _ (8 * s.size + padOf k s.size - 1 - p) (p + 1 - 8 * s.size) _ (by omega) (by omega)).symm

theorem bits_step (N e j : Nat) : N / 2 ^ e % 2 ^ (j + 1) = 2 * (N / 2 ^ (e + 1) % 2 ^ j) + N / 2 ^ e % 2 := by
  have h1 : (2 : Nat) ^ (j + 1) = 2 * 2 ^ j := Nat.pow_succ'
  have h2 : (2 : Nat) ^ (e + 1) = 2 ^ e * 2 := Nat.pow_succ _ _
  rw [h1, h2, Nat.mod_mul, Nat.div_div_eq_div_mul]
  omega

/-- The number of a group of bits under way. -/
def grp (k : Nat) (s : ByteArray) (g j : Nat) : Nat := getL s.data.toList * 2 ^ padOf k s.size / 2 ^ (k * mOf k s.size - k * g - j) % 2 ^ j
/-- The letters of the groups that are there. -/
def outL (L : ByteArray) (k : Nat) (s : ByteArray) (g : Nat) : List UInt8 := (dg (2 ^ k) (getL s.data.toList * 2 ^ padOf k s.size / 2 ^ (k * mOf k s.size - k * g)) g).map fun d => L.data.toList.getD d 0

theorem grp_step {k : Nat} (hk : 0 < k) (s : ByteArray) (g j : Nat) (hg : g < mOf k s.size) (hj : j < k) : grp k s g (j + 1) = 2 * grp k s g j + bitOf s (k * g + j) := by
  have h1 : k * (g + 1) ≤ k * mOf k s.size := Nat.mul_le_mul_left k hg
  rw [Nat.mul_add] at h1
  rw [bitOf_num hk s (k * g + j) (by omega)]
  unfold grp
  have e1 : k * mOf k s.size - k * g - (j + 1) = k * mOf k s.size - 1 - (k * g + j) := by omega
  have e2 : k * mOf k s.size - k * g - j = k * mOf k s.size - 1 - (k * g + j) + 1 := by omega
  rw [e1, e2]
  exact bits_step _ _ _

theorem grp_lt (k : Nat) (s : ByteArray) (g j : Nat) : grp k s g j < 2 ^ j := Nat.mod_lt _ (Nat.pow_pos (by omega))

theorem outL_step {k : Nat} (L : ByteArray) (s : ByteArray) (g : Nat) (hg : g < mOf k s.size) : outL L k s (g + 1) = outL L k s g ++ [L.data.toList.getD (grp k s g k) 0] := by
  have h1 : k * (g + 1) ≤ k * mOf k s.size := Nat.mul_le_mul_left k hg
  rw [Nat.mul_add] at h1
  unfold outL grp
  rw [dg_snoc, List.map_append, Nat.div_div_eq_div_mul, ← Nat.pow_add]
  have e1 : k * mOf k s.size - k * (g + 1) + k = k * mOf k s.size - k * g := by rw [Nat.mul_add]; omega
  have e2 : k * mOf k s.size - k * (g + 1) = k * mOf k s.size - k * g - k := by rw [Nat.mul_add]; omega
  rw [e1, e2]
  rfl

theorem outL_length (L : ByteArray) (k : Nat) (s : ByteArray) (g : Nat) : (outL L k s g).length = g := by unfold outL; rw [List.length_map, dg_length]

theorem outL_all (L : ByteArray) (k : Nat) (s : ByteArray) : outL L k s (mOf k s.size) = (encN k s.data.toList).map fun d => L.data.toList.getD d 0 := by
  unfold outL encN
  have hl : s.data.toList.length = s.size := by simp
  rw [hl]
  simp

theorem extract_one (L : ByteArray) (n : Nat) (h : n < L.size) : (L.extract n (n + 1)).data.toList = [L.data.toList.getD n 0] := by
  have hl : n < L.data.toList.length := by simpa using h
  rw [ByteArray.data_extract, Array.toList_extract, List.extract_eq_take_drop]
  rw [show n + 1 - n = 1 by omega, List.drop_eq_getElem_cons hl, List.getD_eq_getElem?_getD, List.getElem?_eq_getElem hl]
  rfl

/-- The length of a text, for a measure. -/
def lenStr : Value → Nat
  | .string s => s.size
  | _ => 0
theorem lenStr_str (s : ByteArray) : lenStr (.string s) = s.size := rfl

set_option maxRecDepth 20000 in
set_option maxHeartbeats 1000000 in
theorem refEncode_any (kind : Nat) (s : ByteArray) (w : World) (hkd : kind ≤ 2) (hs : s.size ≤ 20000) :
    Calls Tryz.prog 27 #[.int .i64 kind, .string s] w fun e w' => e = .returned (.string (encS (letS kind) (bitK kind) (filB kind) s)) ∧ w = w' := by
  obtain ⟨L, HL⟩ : ∃ L, Hid (letS kind = L) := ⟨_, Lib.hid rfl⟩
  obtain ⟨k, HK⟩ : ∃ k, Hid (bitK kind = k) := ⟨_, Lib.hid rfl⟩
  have hk46 : k = 4 ∨ k = 6 := by rw [← HK.out]; exact bit_k _
  have HLS : Hid (L.size = 2 ^ k) := by rw [← HL.out, ← HK.out]; exact Lib.hid (let_size _)
  have hk4 : 4 ≤ k := by omega
  have hk6 : k ≤ 6 := by omega
  have HK46 := Lib.hid hk46
  clear hk46
  go_enter Tryz.func27, Tryz.ntmps27
  go_wp2_with fail
  refine (refLetters_any kind _ hkd).mono ?_
  rintro e w1 ⟨rfl, rfl⟩
  rw [HL.out]
  go_wp2_with fail
  refine (refBits_any kind _ hkd).mono ?_
  rintro e w1 ⟨rfl, rfl⟩
  rw [HK.out]
  go_wp2_with fail
  obtain ⟨M, HM⟩ : ∃ M, Hid (mOf k s.size = M) := ⟨_, Lib.hid rfl⟩
  have hM1 := mOf_lt (by omega : 0 < k) s.size
  have hM2 := mOf_ge (by omega : 0 < k) s.size
  rw [HM.out] at hM1 hM2
  have HMM := Lib.hid (And.intro hM1 hM2)
  have hMs : M ≤ 50000 := by
    have h2 : 4 * M ≤ k * M := Nat.mul_le_mul_right _ hk4
    omega
  clear hM1 hM2
  go_loop [7, 8] (fun o i => ∃ (g i' : Nat) (ob : ByteArray), g ≤ M ∧ i = .int .i64 i' ∧ Hid (i' = k * g) ∧ o = .string ob ∧ Hid (ob.data.toList = outL L k s g)) (fun _ i => 8 * s.size + k - (intOf i).toNat)
  case atStart => exact ⟨0, 0, ⟨#[]⟩, Nat.zero_le _, rfl, by exact Lib.hid (by omega), rfl, by exact Lib.hid (by simp [outL, dg])⟩
  case round =>
    obtain ⟨g, i, o, hg, rfl, HI, rfl, HO⟩ := hrel
    have hos : o.size = g := by
      have h1 : o.data.toList.length = g := by rw [HO.out, outL_length]
      simpa using h1
    have hol : o.size ≤ 50000 := by omega
    have HOS := Lib.hid hos
    clear hos
    by_cases hlt : g < M
    · have hi8 : i < 8 * s.size := by
        have h1 : k * (g + 1) ≤ k * M := Nat.mul_le_mul_left k hlt
        have h2 := HMM.out.1
        rw [HI.out]; rw [Nat.mul_add] at h1; omega
      go_wp2_with fail
      go_loop [9, 10] (fun n j => ∃ (j' n' : Nat), j' ≤ k ∧ j = .int .i64 j' ∧ n = .int .i64 n' ∧ Hid (n' = grp k s g j')) (fun _ j => k - (intOf j).toNat)
      case atStart => exact ⟨0, 0, Nat.zero_le _, rfl, rfl, by exact Lib.hid (by unfold grp; simp [Nat.mod_one])⟩
      case round =>
        obtain ⟨j, n, hj, rfl, rfl, HN⟩ := hrel
        have hn64 : n < 64 := by
          rw [HN.out]
          exact Nat.lt_of_lt_of_le (grp_lt k s g j) (Nat.le_trans (Nat.pow_le_pow_right (by omega) (by omega : j ≤ 6)) (by decide))
        by_cases hlt2 : j < k
        · have hb2 := bitOf_lt s (i + j)
          obtain ⟨b, HB⟩ : ∃ b, Hid (bitOf s (i + j) = b) := ⟨_, Lib.hid rfl⟩
          rw [HB.out] at hb2
          have cB : Hid (∀ W : World, Calls Tryz.prog 43 #[.string s, .int .i64 ((i : Int) + (j : Int))] W fun e w' => e = .returned (.int .i64 (b : Int)) ∧ W = w') := fun W => by
            have h := bit_any s (i + j) W (by omega) (by omega)
            rw [HB.out, Int.natCast_add] at h
            exact h
          go_wp2_with fail
          refine (cB.out _).mono ?_
          rintro e w3 ⟨rfl, rfl⟩
          go_wp2_with fail
          go_round
          case rel =>
            refine ⟨j + 1, 2 * n + b, by omega, by go_num, by go_num, ?_⟩
            show _ = _
            rw [grp_step (by omega) s g j (by rw [HM.out]; exact hlt) hlt2, ← HN.out, ← HI.out, HB.out]
          case measure => simp [intOf]; omega
        · have hjk : j = k := by omega
          have HJ := Lib.hid hjk
          have hnL : n < L.size := by
            rw [HLS.out, HN.out, hjk]; exact grp_lt k s g k
          clear hjk
          go_wp2_with fail
          go_round
          case rel =>
            refine ⟨g + 1, i + k, o ++ L.extract n (n + 1), hlt, by rw [Int.natCast_add], ?_, rfl, ?_⟩
            · show _ = _
              rw [HI.out, Nat.mul_add, Nat.mul_one]
            · show _ = _
              rw [ByteArray.data_append, Array.toList_append, HO.out, extract_one L n hnL, outL_step L s g (by rw [HM.out]; exact hlt), HN.out, HJ.out]
          case measure => simp [intOf]; omega
    · have hi8 : ¬ i < 8 * s.size := by
        have h2 := HMM.out.2
        have hgM : g = M := by omega
        rw [HI.out, hgM]; omega
      have hob : Hid (o.data.toList = (encN k s.data.toList).map fun d => L.data.toList.getD d 0) := by
        have hgM : g = mOf k s.size := by rw [HM.out]; omega
        show _ = _
        rw [HO.out, hgM, outL_all]
      have hoM : Hid (o.size = M) := by
        show _ = _
        rw [HOS.out]; omega
      obtain ⟨N, HN⟩ : ∃ N, Hid (szA k (filB kind) s.size = N) := ⟨_, Lib.hid rfl⟩
      have hNf : Hid ((kind = 1 → N % 4 = 0 ∧ M ≤ N ∧ N < M + 4) ∧ (kind ≠ 1 → N = M)) := by
        have hM := HM.out
        have hN := HN.out
        have hK := HK.out
        unfold bitK at hK
        constructor
        · intro h
          subst h
          rw [if_neg (by omega)] at hK
          subst hK
          rw [← hM, ← hN]
          simp only [szA, mOf, filB, decide_true, Bool.true_and, decide_eq_true_eq]
          split <;> omega
        · intro h
          have hf : filB kind = false := by unfold filB; rw [decide_eq_false_iff_not]; exact h
          rw [hf] at hN
          rw [← hM, ← hN]
          rcases HK46.out with e | e
          · subst e; simp only [szA, mOf, Bool.false_and, Bool.false_eq_true, if_false]; omega
          · subst e; simp only [szA, mOf, Bool.false_and, Bool.false_eq_true, if_false]; omega
      have hres : Hid (∀ (o2 : ByteArray) (j : Nat), o2.data.toList = o.data.toList ++ List.replicate j 61 → M + j = N → o2 = encS (letS kind) (bitK kind) (filB kind) s) := by
        intro o2 j h1 h2
        rw [bytes_of_list h1, HL.out, HK.out]
        unfold encS encL
        have hl : s.data.toList.length = s.size := by simp
        rw [hl, HN.out, HM.out, hob.out]
        congr 3
        congr 1
        omega
      by_cases h1 : kind = 1
      · have hb1 : ((kind : Int) == 1) = true := by simp; omega
        have HF1 := Lib.hid (hNf.out.1 h1)
        have hN50 : N ≤ 60000 := by have := HF1.out; omega
        clear h1
        go_wp2_with fail
        go_loop [7] (fun v => ∃ (j : Nat) (o2 : ByteArray), v = .string o2 ∧ Hid (o2.data.toList = o.data.toList ++ List.replicate j 61) ∧ M + j ≤ N) (fun v => N - lenStr v)
        case atStart => exact ⟨0, o, rfl, by exact Lib.hid (by simp), by have := HF1.out; omega⟩
        case round =>
          obtain ⟨j, o2, rfl, HO2, hjN⟩ := hrel
          have hsz : o2.size = M + j := by
            have e : o2.data.toList.length = M + j := by
              have e2 : o.data.toList.length = M := by rw [Array.length_toList]; exact hoM.out
              rw [HO2.out, List.length_append, List.length_replicate, e2]
            rw [Array.length_toList] at e
            exact e
          have hszl : o2.size ≤ 60000 := by omega
          have HSZ := Lib.hid hsz
          clear hsz
          by_cases h4 : o2.size % 4 = 0
          · have hq : ((o2.size : Int) % 4 != 0) = false := by simp; omega
            have hend : M + j = N := by
              have h5 := HSZ.out
              have h6 := HF1.out
              omega
            have HE := Lib.hid (hres.out o2 j HO2.out hend)
            clear h4 hend
            go_wp2_with fail
            go_ret
            exact ⟨ret_str HE.out, rfl⟩
          · have hq : ((o2.size : Int) % 4 != 0) = true := by simp; omega
            have hlt9 : M + j < N := by
              have h5 := HSZ.out
              have h6 := HF1.out
              omega
            clear h4
            go_wp2_with fail
            go_round
            case rel =>
              refine ⟨j + 1, o2 ++ ⟨#[61]⟩, rfl, ?_, by omega⟩
              show _ = _
              rw [ByteArray.data_append, Array.toList_append, HO2.out, List.append_assoc, List.replicate_succ']
            case measure =>
              simp only [lenStr_str, ByteArray.size_append]
              have h7 : (ByteArray.mk #[61]).size = 1 := rfl
              have h5 := HSZ.out
              omega
      · have hb1 : ((kind : Int) == 1) = false := by simp; omega
        have HE := Lib.hid (hres.out o 0 (by simp) (by have := hNf.out.2 h1; omega))
        clear h1
        go_wp2_with fail
        go_loop [7] (fun v => v = .string o) (fun v => 0)
        case atStart => rfl
        case round =>
          subst hrel
          go_wp2_with fail
          go_ret
          exact ⟨ret_str HE.out, rfl⟩
end Go.Proofs.YtdhplohppcndhaaGreatDoor
