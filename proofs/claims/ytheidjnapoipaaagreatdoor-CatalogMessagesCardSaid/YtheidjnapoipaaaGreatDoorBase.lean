/- The contracts of the two ways between texts and letters, as the laws use them. -/
import Derived.Test.YtheidjnapoipaaaGreatDoorRows
import Derived.WalkKit
import Derived.WalkSpells
import Derived.WalkLawsBesides
import Derived.Lib.Hide
import Derived.Test.YtheidjnapoipaaaGreatDoorDec
namespace Go.Proofs.YtheidjnapoipaaaGreatDoor
open Go.RowKit
set_option linter.unusedVariables false

def encL (L : ByteArray) (k : Nat) (fill : Bool) (s : List UInt8) : List UInt8 := (encN k s).map (fun d => L.data.toList.getD d 0) ++ List.replicate (szA k fill s.length - mOf k s.length) 61
def encS (L : ByteArray) (k : Nat) (fill : Bool) (s : ByteArray) : ByteArray := ⟨(encL L k fill s.data.toList).toArray⟩
def decS (L : ByteArray) (k : Nat) (t : ByteArray) : ByteArray := ⟨(decN k (preN L t.data.toList)).toArray⟩

theorem bytes_of_list {r : ByteArray} {l : List UInt8} (h : r.data.toList = l) : r = ⟨l.toArray⟩ := by
  subst h; simp

theorem Encode_S (L : ByteArray) (k : Nat) (fill : Bool) (s : ByteArray) (w : World) (hk : k = 4 ∨ k = 6) (hL : L.size = 2 ^ k) (hs : s.size ≤ 100000) :
    Calls Tryz.prog 41 #[alph L k fill, .string s] w fun e w' => e = .returned (.string (encS L k fill s)) ∧ Below w.heap.size w w' := by
  refine (Encode_any L k fill s w hk hL hs).mono fun e w' ⟨⟨r, he, hr⟩, hb⟩ => ⟨?_, hb⟩
  rw [he, bytes_of_list hr]
  congr 3

theorem preN_length (L : ByteArray) : ∀ t, (preN L t).length ≤ t.length
  | [] => Nat.le_refl _
  | c :: t => by
    unfold preN
    split
    · simpa using preN_length L t
    · simp

theorem decS_size (L : ByteArray) (k : Nat) (hk : k ≤ 8) (t : ByteArray) : (decS L k t).size ≤ t.size := by
  have h1 := preN_length L t.data.toList
  have hl : t.data.toList.length = t.size := by simp
  show (decN k (preN L t.data.toList)).toArray.size ≤ _
  rw [List.size_toArray]
  unfold decN
  rw [putL_length]
  have h2 : k * (preN L t.data.toList).length ≤ 8 * t.size := Nat.mul_le_mul hk (by omega)
  omega

theorem bytesOf_S (L : ByteArray) (k : Nat) (fill : Bool) (t : ByteArray) (w : World) (hk : k = 4 ∨ k = 6) (hL : L.size = 2 ^ k) (hs : t.size ≤ 100000) :
    Calls Tryz.prog 75 #[alph L k fill, .string t] w fun e w' => e = .returned (.string (decS L k t)) ∧ Below w.heap.size w w' := by
  refine (bytesOf_any L k fill t w hk hL hs).mono fun e w' ⟨⟨r, he, hr⟩, hb⟩ => ⟨?_, hb⟩
  rw [he, bytes_of_list hr]
  rfl

set_option maxRecDepth 20000 in
set_option maxHeartbeats 400000 in
theorem Decode_ok (L : ByteArray) (k : Nat) (fill : Bool) (t : ByteArray) (w : World) (hk : k = 4 ∨ k = 6) (hL : L.size = 2 ^ k) (hs : t.size ≤ 100000) (h : encS L k fill (decS L k t) = t) :
    Calls Tryz.prog 60 #[alph L k fill, .string t] w fun e w' => e = .returned (.tuple #[.string (decS L k t), .int .i64 0]) ∧ Below w.heap.size w w' := by
  have hsz := decS_size L k (by omega) t
  have hb : Below w.heap.size w (w.alloc (.cells (alphL L k fill).toArray 67)) := (Below.refl _ _).alloc (Nat.le_refl _) _
  have HR : Hid (Row (w.alloc (.cells (alphL L k fill).toArray 67)) w.heap.size 67 (alphL L k fill)) := Row.new w _ _
  have HB := Lib.hid hb
  have HE := Lib.hid h
  clear hb h
  unfold alph
  go_enter Tryz.func60, Tryz.ntmps60
  go_wp2_with fail
  refine (bytesOf_S L k fill t _ hk hL hs).mono ?_
  rintro e w1 ⟨rfl, hb1⟩
  have hr1 := HR.out.below hb1 (by simp)
  have hb2 := HB.out.trans (hb1.mono (by simp))
  have hal0 := hr1.cell 0
  have hal1 := hr1.cell 1
  have hal2 := hr1.cell 2
  simp only [alphL, List.getElem?_cons_zero, List.getElem?_cons_succ] at hal0 hal1 hal2
  clear hb1 hr1
  go_wp2_with fail
  refine (Encode_S L k fill (decS L k t) _ hk hL (by omega)).mono ?_
  rintro e w2 ⟨rfl, hb3⟩
  have hb4 := hb2.trans (hb3.mono hb2.size)
  clear hb3
  rw [HE.out]
  go_wp2_with fail
  go_ret2
  exact ⟨rfl, hb4⟩
set_option maxRecDepth 20000 in
set_option maxHeartbeats 400000 in
theorem Decode_bad (L : ByteArray) (k : Nat) (fill : Bool) (t : ByteArray) (w : World) (hk : k = 4 ∨ k = 6) (hL : L.size = 2 ^ k) (hs : t.size ≤ 100000) (h : encS L k fill (decS L k t) ≠ t) :
    Calls Tryz.prog 60 #[alph L k fill, .string t] w fun e w' => e = .returned (.tuple #[.string ⟨#[]⟩, .int .i64 4]) ∧ Below w.heap.size w w' := by
  have hsz := decS_size L k (by omega) t
  have hb : Below w.heap.size w (w.alloc (.cells (alphL L k fill).toArray 67)) := (Below.refl _ _).alloc (Nat.le_refl _) _
  have HR : Hid (Row (w.alloc (.cells (alphL L k fill).toArray 67)) w.heap.size 67 (alphL L k fill)) := Row.new w _ _
  have HB := Lib.hid hb
  have hne : ((encS L k fill (decS L k t)).toList == t.toList) = false := by
    rw [beq_eq_false_iff_ne]
    intro e
    apply h
    rw [ByteArray.toList_eq, ByteArray.toList_eq] at e
    exact ByteArray.ext (Array.ext' e)
  clear hb h
  unfold alph
  go_enter Tryz.func60, Tryz.ntmps60
  go_wp2_with fail
  refine (bytesOf_S L k fill t _ hk hL hs).mono ?_
  rintro e w1 ⟨rfl, hb1⟩
  have hr1 := HR.out.below hb1 (by simp)
  have hb2 := HB.out.trans (hb1.mono (by simp))
  have hal0 := hr1.cell 0
  have hal1 := hr1.cell 1
  have hal2 := hr1.cell 2
  simp only [alphL, List.getElem?_cons_zero, List.getElem?_cons_succ] at hal0 hal1 hal2
  clear hb1 hr1
  go_wp2_with fail
  refine (Encode_S L k fill (decS L k t) _ hk hL (by omega)).mono ?_
  rintro e w2 ⟨rfl, hb3⟩
  have hb4 := hb2.trans (hb3.mono hb2.size)
  clear hb3
  go_wp2_with fail
  go_ret2
  exact ⟨rfl, hb4⟩

/-- Each text comes back from its letters. -/
theorem dec_enc (L : ByteArray) (k : Nat) (fill : Bool) (s : ByteArray) (hk : k = 4 ∨ k = 6) (hL : L.size = 2 ^ k) (hix : ∀ d, d < 2 ^ k → ixI L (L.data.toList.getD d 0) = d) (hf : ixI L 61 < 0) : decS L k (encS L k fill s) = s := by
  have hpre : ∀ (ds : List Nat) (j : Nat), (∀ d ∈ ds, d < 2 ^ k) → preN L (ds.map (fun d => L.data.toList.getD d 0) ++ List.replicate j 61) = ds := by
    intro ds j
    induction ds with
    | nil =>
      intro _
      cases j with
      | zero => rfl
      | succ j => rw [List.map_nil, List.nil_append, List.replicate_succ, preN, if_neg (by omega)]
    | cons d ds ih =>
      intro h
      have h1 := hix d (h d (by simp))
      rw [List.map_cons, List.cons_append, preN, if_pos (by omega), h1, ih (fun x hx => h x (by simp [hx]))]
      rfl
  have e : decN k (preN L (encS L k fill s).data.toList) = s.data.toList := by
    show decN k (preN L (encL L k fill s.data.toList)) = _
    unfold encL
    rw [hpre _ _ (encN_lt k _)]
    exact decN_encN (by omega) (by omega) _
  unfold decS
  rw [e]

theorem let_size (kind : Nat) : (letS kind).size = 2 ^ bitK kind := by
  unfold letS bitK
  by_cases h0 : kind = 0
  · rw [if_pos h0, if_pos h0]; rfl
  · rw [if_neg h0, if_neg h0]; split <;> rfl
theorem bit_k (kind : Nat) : bitK kind = 4 ∨ bitK kind = 6 := by unfold bitK; split <;> simp

theorem hex_ix : ∀ d, d < 16 → ixI hexS (hexS.data.toList.getD d 0) = d := by decide +kernel
theorem std_ix : ∀ d, d < 64 → ixI stdS (stdS.data.toList.getD d 0) = d := by decide +kernel
theorem url_ix : ∀ d, d < 64 → ixI urlS (urlS.data.toList.getD d 0) = d := by decide +kernel
theorem let_ix (kind : Nat) : ∀ d, d < 2 ^ bitK kind → ixI (letS kind) ((letS kind).data.toList.getD d 0) = d := by
  unfold letS bitK
  by_cases h0 : kind = 0
  · rw [if_pos h0, if_pos h0]; exact hex_ix
  · rw [if_neg h0, if_neg h0]; split
    · exact std_ix
    · exact url_ix
theorem let_fill (kind : Nat) : ixI (letS kind) 61 < 0 := by
  unfold letS
  split
  · decide +kernel
  · split <;> decide +kernel

/-- Each text comes back. -/
theorem back (kind : Nat) (s : ByteArray) : decS (letS kind) (bitK kind) (encS (letS kind) (bitK kind) (filB kind) s) = s :=
  dec_enc _ _ _ _ (bit_k kind) (let_size kind) (let_ix kind) (let_fill kind)

def exF : ByteArray := ⟨#[102]⟩
theorem ex_std : encS stdS 6 true ⟨#[102]⟩ = ⟨#[90, 103, 61, 61]⟩ := by decide +kernel
theorem ex_hex : encS hexS 4 false ⟨#[102]⟩ = ⟨#[54, 54]⟩ := by decide +kernel

set_option maxRecDepth 20000 in
set_option maxHeartbeats 400000 in
theorem awake2_any (w : World) :
    Calls Tryz.prog 61 #[] w fun e w' => e = .returned (.bool true) ∧ Below w.heap.size w w' := by
  go_enter Tryz.func61, Tryz.ntmps61
  go_wp2_with fail
  refine (Std_any _).mono ?_
  rintro e w1 ⟨rfl, hb1⟩
  go_wp2_with fail
  refine (Encode_S stdS 6 true ⟨#[102]⟩ _ (by omega) rfl (by decide)).mono ?_
  rintro e w2 ⟨rfl, hb2⟩
  have hb3 := hb1.trans (hb2.mono hb1.size)
  clear hb1 hb2
  rw [ex_std]
  go_wp2_with fail
  refine (Hex_any _).mono ?_
  rintro e w4 ⟨rfl, hb4⟩
  have hb5 := hb3.trans (hb4.mono hb3.size)
  clear hb3 hb4
  go_wp2_with fail
  refine (Encode_S hexS 4 false ⟨#[102]⟩ _ (by omega) rfl (by decide)).mono ?_
  rintro e w6 ⟨rfl, hb6⟩
  have hb7 := hb5.trans (hb6.mono hb5.size)
  clear hb5 hb6
  rw [ex_hex]
  go_wp2_with fail
  go_ret
  exact ⟨rfl, hb7⟩

theorem encS_append (L : ByteArray) (k : Nat) (fl : Bool) (s t : ByteArray) (hk : k = 4 ∨ k = 6) (hf : k = 4 → fl = false) (hs : k = 4 ∨ s.size % 3 = 0) : encS L k fl (s ++ t) = encS L k fl s ++ encS L k fl t ∧ szA k fl (s.size + t.size) = szA k fl s.size + szA k fl t.size := by
  have hl : s.data.toList.length = s.size := by simp
  have hm : t.data.toList.length = t.size := by simp
  have hp : padOf k s.data.toList.length = 0 := by
    rw [hl]
    rcases hk with rfl | rfl
    · unfold padOf mOf; omega
    · unfold padOf mOf; omega
  have hz : szA k fl (s.size + t.size) = szA k fl s.size + szA k fl t.size := by
    rcases hk with rfl | rfl
    · have := hf rfl; subst this
      simp only [szA, Bool.false_and, Bool.false_eq_true, if_false]; omega
    · have h3 : s.size % 3 = 0 := by omega
      have e1 : (s.size + t.size) % 3 = t.size % 3 := by omega
      have e2 : (s.size + t.size) / 3 = s.size / 3 + t.size / 3 := by omega
      simp only [szA, e1, e2, h3, Nat.add_mul]
      simp
      omega
  have hsz0 : szA k fl s.size - mOf k s.size = 0 := by
    rcases hk with rfl | rfl
    · have := hf rfl; subst this
      simp only [szA, mOf, Bool.false_and, Bool.false_eq_true, if_false]; omega
    · have h3 : s.size % 3 = 0 := by omega
      simp only [szA, mOf, h3]
      simp
      omega
  have hfill : szA k fl (s.size + t.size) - mOf k (s.size + t.size) = szA k fl t.size - mOf k t.size := by
    rw [hz]
    rcases hk with rfl | rfl
    · have := hf rfl; subst this
      simp only [szA, mOf, Bool.false_and, Bool.false_eq_true, if_false]; omega
    · have h3 : s.size % 3 = 0 := by omega
      have h4 : szA 6 fl s.size = mOf 6 s.size := by
        simp only [szA, mOf, h3]
        simp
        omega
      rw [h4]
      unfold mOf
      omega
  refine ⟨?_, hz⟩
  have e : (encS L k fl s ++ encS L k fl t).data.toList = encL L k fl s.data.toList ++ encL L k fl t.data.toList := by
    rw [ByteArray.data_append, Array.toList_append]; rfl
  rw [bytes_of_list e]
  unfold encS
  congr 2
  rw [ByteArray.data_append, Array.toList_append]
  unfold encL
  rw [encN_append (by omega) _ _ hp, List.length_append, hl, hm, hsz0, hfill, List.map_append]
  simp

theorem szA_le {k : Nat} {fl : Bool} {n : Nat} (hk : k = 4 ∨ k = 6) (hn : n ≤ 40000) : szA k fl n ≤ 100000 := by
  unfold szA
  rcases hk with rfl | rfl <;> (split <;> omega)
theorem encS_size {L : ByteArray} {k : Nat} {fl : Bool} {s : ByteArray} (hk : k = 4 ∨ k = 6) (hn : s.size ≤ 40000) : (encS L k fl s).size ≤ 100000 := by
  have hl : s.data.toList.length = s.size := by simp
  show (encL L k fl s.data.toList).toArray.size ≤ _
  rw [List.size_toArray]
  unfold encL
  rw [List.length_append, List.length_map, encN_length, List.length_replicate, hl]
  have h1 := szA_le (fl := fl) hk hn
  have h2 : mOf k s.size ≤ 100000 := by
    unfold mOf
    rcases hk with rfl | rfl <;> omega
  have h3 : mOf k s.size ≤ szA k fl s.size := by
    unfold mOf szA
    rcases hk with rfl | rfl <;> (split <;> omega)
  omega
end Go.Proofs.YtheidjnapoipaaaGreatDoor
