/- The contract of the writing by letters, as others use it. -/
import Derived.Test.YtoampocobmeebaaGreatDoorRows
import Derived.WalkKit
import Derived.WalkSpells
import Derived.WalkLawsBesides
import Derived.Lib.Hide
import Derived.Test.YtoampocobmeebaaGreatDoorEnc
namespace Go.Proofs.YtoampocobmeebaaGreatDoor
open Go.RowKit
set_option linter.unusedVariables false

def encL (L : ByteArray) (k : Nat) (fill : Bool) (s : List UInt8) : List UInt8 := (encN k s).map (fun d => L.data.toList.getD d 0) ++ List.replicate (szA k fill s.length - mOf k s.length) 61
def encS (L : ByteArray) (k : Nat) (fill : Bool) (s : ByteArray) : ByteArray := ⟨(encL L k fill s.data.toList).toArray⟩

theorem bytes_of_list {r : ByteArray} {l : List UInt8} (h : r.data.toList = l) : r = ⟨l.toArray⟩ := by
  subst h; simp

theorem Encode_S (L : ByteArray) (k : Nat) (fill : Bool) (s : ByteArray) (w : World) (hk : k = 4 ∨ k = 6) (hL : L.size = 2 ^ k) (hs : s.size ≤ 100000) :
    Calls Tryz.prog 45 #[alph L k fill, .string s] w fun e w' => e = .returned (.string (encS L k fill s)) ∧ Below w.heap.size w w' := by
  refine (Encode_any L k fill s w hk hL hs).mono fun e w' ⟨⟨r, he, hr⟩, hb⟩ => ⟨?_, hb⟩
  rw [he, bytes_of_list hr]
  congr 3

def exF : ByteArray := ⟨#[102]⟩
theorem ex_std : encS stdS 6 true ⟨#[102]⟩ = ⟨#[90, 103, 61, 61]⟩ := by decide +kernel
theorem ex_hex : encS hexS 4 false ⟨#[102]⟩ = ⟨#[54, 54]⟩ := by decide +kernel

set_option maxHeartbeats 400000 in
theorem awake2_any (w : World) :
    Calls Tryz.prog 42 #[] w fun e w' => e = .returned (.bool true) ∧ Below w.heap.size w w' := by
  go_enter Tryz.func42, Tryz.ntmps42
  go_wp2_with fail
  refine (Std_any _).mono ?_
  rintro e w1 ⟨rfl, hb1⟩
  go_wp2_with fail
  refine (Encode_S stdS 6 true ⟨#[102]⟩ _ (by omega) rfl (by decide)).mono ?_
  rintro e w2 ⟨rfl, hb2⟩
  have hb3 := hb1.trans (hb2.mono hb1.size)
  clear hb1 hb2
  rw [ex_std]
  go_wp2_with fail
  refine (Hex_any _).mono ?_
  rintro e w4 ⟨rfl, hb4⟩
  have hb5 := hb3.trans (hb4.mono hb3.size)
  clear hb3 hb4
  go_wp2_with fail
  refine (Encode_S hexS 4 false ⟨#[102]⟩ _ (by omega) rfl (by decide)).mono ?_
  rintro e w6 ⟨rfl, hb6⟩
  have hb7 := hb5.trans (hb6.mono hb5.size)
  clear hb5 hb6
  rw [ex_hex]
  go_wp2_with fail
  go_ret
  exact ⟨rfl, hb7⟩

theorem encS_append (L : ByteArray) (k : Nat) (fl : Bool) (s t : ByteArray) (hk : k = 4 ∨ k = 6) (hf : k = 4 → fl = false) (hs : k = 4 ∨ s.size % 3 = 0) : encS L k fl (s ++ t) = encS L k fl s ++ encS L k fl t ∧ szA k fl (s.size + t.size) = szA k fl s.size + szA k fl t.size := by
  have hl : s.data.toList.length = s.size := by simp
  have hm : t.data.toList.length = t.size := by simp
  have hp : padOf k s.data.toList.length = 0 := by
    rw [hl]
    rcases hk with rfl | rfl
    · unfold padOf mOf; omega
    · unfold padOf mOf; omega
  have hz : szA k fl (s.size + t.size) = szA k fl s.size + szA k fl t.size := by
    rcases hk with rfl | rfl
    · have := hf rfl; subst this
      simp only [szA, Bool.false_and, Bool.false_eq_true, if_false]; omega
    · have h3 : s.size % 3 = 0 := by omega
      have e1 : (s.size + t.size) % 3 = t.size % 3 := by omega
      have e2 : (s.size + t.size) / 3 = s.size / 3 + t.size / 3 := by omega
      simp only [szA, e1, e2, h3, Nat.add_mul]
      simp
      omega
  have hsz0 : szA k fl s.size - mOf k s.size = 0 := by
    rcases hk with rfl | rfl
    · have := hf rfl; subst this
      simp only [szA, mOf, Bool.false_and, Bool.false_eq_true, if_false]; omega
    · have h3 : s.size % 3 = 0 := by omega
      simp only [szA, mOf, h3]
      simp
      omega
  have hfill : szA k fl (s.size + t.size) - mOf k (s.size + t.size) = szA k fl t.size - mOf k t.size := by
    rw [hz]
    rcases hk with rfl | rfl
    · have := hf rfl; subst this
      simp only [szA, mOf, Bool.false_and, Bool.false_eq_true, if_false]; omega
    · have h3 : s.size % 3 = 0 := by omega
      have h4 : szA 6 fl s.size = mOf 6 s.size := by
        simp only [szA, mOf, h3]
        simp
        omega
      rw [h4]
      unfold mOf
      omega
  refine ⟨?_, hz⟩
  have e : (encS L k fl s ++ encS L k fl t).data.toList = encL L k fl s.data.toList ++ encL L k fl t.data.toList := by
    rw [ByteArray.data_append, Array.toList_append]; rfl
  rw [bytes_of_list e]
  unfold encS
  congr 2
  rw [ByteArray.data_append, Array.toList_append]
  unfold encL
  rw [encN_append (by omega) _ _ hp, List.length_append, hl, hm, hsz0, hfill, List.map_append]
  simp

theorem szA_le {k : Nat} {fl : Bool} {n : Nat} (hk : k = 4 ∨ k = 6) (hn : n ≤ 40000) : szA k fl n ≤ 100000 := by
  unfold szA
  rcases hk with rfl | rfl <;> (split <;> omega)
theorem encS_size {L : ByteArray} {k : Nat} {fl : Bool} {s : ByteArray} (hk : k = 4 ∨ k = 6) (hn : s.size ≤ 40000) : (encS L k fl s).size ≤ 100000 := by
  have hl : s.data.toList.length = s.size := by simp
  show (encL L k fl s.data.toList).toArray.size ≤ _
  rw [List.size_toArray]
  unfold encL
  rw [List.length_append, List.length_map, encN_length, List.length_replicate, hl]
  have h1 := szA_le (fl := fl) hk hn
  have h2 : mOf k s.size ≤ 100000 := by
    unfold mOf
    rcases hk with rfl | rfl <;> omega
  have h3 : mOf k s.size ≤ szA k fl s.size := by
    unfold mOf szA
    rcases hk with rfl | rfl <;> (split <;> omega)
  omega
theorem Awake2_any (w : World) :
    Calls Tryz.prog 36 #[] w fun e w' => e = .returned (.bool true) ∧ Below w.heap.size w w' := by
  go_enter Tryz.func36, Tryz.ntmps36
  go_wp2_with (go_at_call 42; refine (awake2_any _).mono ?_; rintro e wa ⟨rfl, hb⟩)
  go_ret
  exact ⟨rfl, hb⟩
end Go.Proofs.YtoampocobmeebaaGreatDoor
