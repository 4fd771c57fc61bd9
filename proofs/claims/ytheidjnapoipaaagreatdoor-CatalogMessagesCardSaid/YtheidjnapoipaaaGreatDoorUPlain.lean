/- Plain facts on UTF-8: a text's code points; nothing of the program stands here. -/
import Derived.WalkKit
import Derived.Laws.RangeAny
namespace Go.Proofs.YtheidjnapoipaaaGreatDoor
open Go.RowKit

/-- The code point that a text begins with, and how many bytes it takes. -/
def dec (l : List UInt8) : Option (Nat × Nat) :=
  let at' (k : Nat) : Nat := (l.getD k 0).toNat
  let cont (k : Nat) : Bool := decide (k < l.length) && at' k / 64 == 2
  if l = [] then none
  else if at' 0 < 128 then some (at' 0, 1)
  else if at' 0 / 32 == 6 && cont 1 then
    let c := (at' 0 % 32) * 64 + at' 1 % 64
    if c ≥ 128 then some (c, 2) else none
  else if at' 0 / 16 == 14 && cont 1 && cont 2 then
    let c := (at' 0 % 16) * 4096 + (at' 1 % 64) * 64 + at' 2 % 64
    if c ≥ 2048 && Utf8.valid c then some (c, 3) else none
  else if at' 0 / 8 == 30 && cont 1 && cont 2 && cont 3 then
    let c := (at' 0 % 8) * 262144 + (at' 1 % 64) * 4096 + (at' 2 % 64) * 64 + at' 3 % 64
    if c ≥ 65536 && Utf8.valid c then some (c, 4) else none
  else none

/-- The writing of a code point. -/
def enc (c : Nat) : List UInt8 :=
  if c < 128 then [UInt8.ofNat c]
  else if c < 2048 then [UInt8.ofNat (192 + c / 64), UInt8.ofNat (128 + c % 64)]
  else if c < 65536 then [UInt8.ofNat (224 + c / 4096), UInt8.ofNat (128 + c / 64 % 64), UInt8.ofNat (128 + c % 64)]
  else [UInt8.ofNat (240 + c / 262144), UInt8.ofNat (128 + c / 4096 % 64), UInt8.ofNat (128 + c / 64 % 64), UInt8.ofNat (128 + c % 64)]

/-- How many bytes it takes. -/
def encLen (c : Nat) : Nat := if c < 128 then 1 else if c < 2048 then 2 else if c < 65536 then 3 else 4

theorem enc_length (c : Nat) : (enc c).length = encLen c := by
  unfold enc encLen
  repeat' split
  all_goals rfl
theorem encLen_bd (c : Nat) : 1 ≤ encLen c ∧ encLen c ≤ 4 := by
  unfold encLen
  repeat' split
  all_goals omega

theorem valid_iff (r : Int) : Utf8.valid r = true ↔ (0 ≤ r ∧ r < 55296) ∨ (57344 ≤ r ∧ r ≤ 1114111) := by
  unfold Utf8.valid; simp

theorem encode_c (r : Int) (c : Nat) (hc : c = if Utf8.valid r then r.toNat else Utf8.runeError) : Utf8.encode r =
    if c < 0x80 then ⟨#[UInt8.ofNat c]⟩
    else if c < 0x800 then ⟨#[UInt8.ofNat (0xC0 + c / 64), UInt8.ofNat (0x80 + c % 64)]⟩
    else if c < 0x10000 then ⟨#[UInt8.ofNat (0xE0 + c / 4096), UInt8.ofNat (0x80 + c / 64 % 64), UInt8.ofNat (0x80 + c % 64)]⟩
    else ⟨#[UInt8.ofNat (0xF0 + c / 262144), UInt8.ofNat (0x80 + c / 4096 % 64), UInt8.ofNat (0x80 + c / 64 % 64), UInt8.ofNat (0x80 + c % 64)]⟩ := by
  subst hc; rfl
theorem encode_eq (c : Nat) (h : Utf8.valid c = true) : Utf8.encode c = ⟨(enc c).toArray⟩ := by
  rw [encode_c (c : Int) c (by rw [if_pos h]; exact (Int.toNat_natCast c).symm)]
  unfold enc
  by_cases h1 : c < 128
  · rw [if_pos h1, if_pos h1]
  · by_cases h2 : c < 2048
    · rw [if_neg h1, if_neg h1, if_pos h2, if_pos h2]
    · by_cases h3 : c < 65536
      · rw [if_neg h1, if_neg h1, if_neg h2, if_neg h2, if_pos h3, if_pos h3]
      · rw [if_neg h1, if_neg h1, if_neg h2, if_neg h2, if_neg h3, if_neg h3]

theorem get_drop (s : ByteArray) (i k : Nat) : (s.get! (i + k)) = (s.data.toList.drop i).getD k 0 := by
  show s.data[i + k]! = _
  rw [List.getD_eq_getElem?_getD, List.getElem?_drop, Array.getElem!_eq_getD, Array.getD_eq_getD_getElem?, Array.getElem?_toList]
  rfl

/-- What a range over a string reads. -/
theorem decode_eq (s : ByteArray) (i : Nat) (h : i < s.size) : Utf8.decode s i = (dec (s.data.toList.drop i)).getD (65533, 1) := by
  have hl : (s.data.toList.drop i).length = s.size - i := by simp
  have hne : s.data.toList.drop i ≠ [] := by intro e; rw [e] at hl; simp at hl; omega
  have hc : ∀ k, decide (k < (s.data.toList.drop i).length) = decide (i + k < s.size) := fun k => by rw [hl]; congr 1; apply propext; omega
  unfold Utf8.decode dec
  simp only [get_drop, hc, if_neg hne, Utf8.runeError]
  repeat' split
  all_goals first | rfl | simp_all

theorem tn (n : Nat) (h : n < 256) : (UInt8.ofNat n).toNat = n := by
  simp [UInt8.toNat_ofNat']; omega

theorem dec1 (b0 : UInt8) (t : List UInt8) (h : b0.toNat < 128) : dec (b0 :: t) = some (b0.toNat, 1) := by
  simp [dec, h]
theorem dec2 (b0 b1 : UInt8) (t : List UInt8) (c : Nat) (h0 : b0.toNat / 32 = 6) (h1 : b1.toNat / 64 = 2) (hc : b0.toNat % 32 * 64 + b1.toNat % 64 = c) (hg : 128 ≤ c) :
    dec (b0 :: b1 :: t) = some (c, 2) := by
  have n0 : ¬ b0.toNat < 128 := by omega
  simp [dec, n0, h0, h1, hc, hg]
theorem dec3 (b0 b1 b2 : UInt8) (t : List UInt8) (c : Nat) (h0 : b0.toNat / 16 = 14) (h1 : b1.toNat / 64 = 2) (h2 : b2.toNat / 64 = 2)
    (hc : b0.toNat % 16 * 4096 + b1.toNat % 64 * 64 + b2.toNat % 64 = c) (hg : 2048 ≤ c) (hv : Utf8.valid c = true) : dec (b0 :: b1 :: b2 :: t) = some (c, 3) := by
  have n0 : ¬ b0.toNat < 128 := by omega
  have n1 : ¬ b0.toNat / 32 = 6 := by omega
  simp [dec, n0, n1, h0, h1, h2, hc, hg, hv]
theorem dec4 (b0 b1 b2 b3 : UInt8) (t : List UInt8) (c : Nat) (h0 : b0.toNat / 8 = 30) (h1 : b1.toNat / 64 = 2) (h2 : b2.toNat / 64 = 2) (h3 : b3.toNat / 64 = 2)
    (hc : b0.toNat % 8 * 262144 + b1.toNat % 64 * 4096 + b2.toNat % 64 * 64 + b3.toNat % 64 = c) (hg : 65536 ≤ c) (hv : Utf8.valid c = true) : dec (b0 :: b1 :: b2 :: b3 :: t) = some (c, 4) := by
  have n0 : ¬ b0.toNat < 128 := by omega
  have n1 : ¬ b0.toNat / 32 = 6 := by omega
  have n2 : ¬ b0.toNat / 16 = 14 := by omega
  simp [dec, n0, n1, n2, h0, h1, h2, h3, hc, hg, hv]

/-- What is written is read. -/
theorem dec_enc_u (c : Nat) (t : List UInt8) (h : Utf8.valid c = true) : dec (enc c ++ t) = some (c, encLen c) := by
  have hv := (valid_iff c).1 h
  unfold enc encLen
  by_cases h1 : c < 128
  · rw [if_pos h1, if_pos h1]
    have e := tn c (by omega)
    have := dec1 (UInt8.ofNat c) t (by omega)
    rwa [e] at this
  · by_cases h2 : c < 2048
    · rw [if_neg h1, if_neg h1, if_pos h2, if_pos h2]
      have e0 := tn (192 + c / 64) (by omega)
      have e1 := tn (128 + c % 64) (by omega)
      exact dec2 _ _ t c (by omega) (by omega) (by omega) (by omega)
    · by_cases h3 : c < 65536
      · rw [if_neg h1, if_neg h1, if_neg h2, if_neg h2, if_pos h3, if_pos h3]
        have e0 := tn (224 + c / 4096) (by omega)
        have e1 := tn (128 + c / 64 % 64) (by omega)
        have e2 := tn (128 + c % 64) (by omega)
        exact dec3 _ _ _ t c (by omega) (by omega) (by omega) (by omega) (by omega) h
      · rw [if_neg h1, if_neg h1, if_neg h2, if_neg h2, if_neg h3, if_neg h3]
        have e0 := tn (240 + c / 262144) (by omega)
        have e1 := tn (128 + c / 4096 % 64) (by omega)
        have e2 := tn (128 + c / 64 % 64) (by omega)
        have e3 := tn (128 + c % 64) (by omega)
        exact dec4 _ _ _ _ t c (by omega) (by omega) (by omega) (by omega) (by omega) (by omega) h

theorem ofNat_eq (b : UInt8) (n : Nat) (h : n = b.toNat) : UInt8.ofNat n = b := by subst h; simp

/-- What is read was written. -/
theorem dec_some {l : List UInt8} {c k : Nat} (h : dec l = some (c, k)) : Utf8.valid c = true ∧ k = encLen c ∧ l = enc c ++ l.drop k := by
  unfold dec at h
  match l with
  | [] => simp at h
  | b0 :: l1 =>
    have hb0 := b0.toNat_lt
    simp only [List.length_cons, List.getD_cons_zero, if_neg (List.cons_ne_nil b0 l1)] at h
    by_cases h1 : b0.toNat < 128
    · rw [if_pos h1] at h
      obtain ⟨rfl, rfl⟩ : b0.toNat = c ∧ 1 = k := by simpa using h
      refine ⟨(valid_iff _).2 (by omega), by simp [encLen, h1], ?_⟩
      simp [enc, h1]
    · rw [if_neg h1] at h
      match l1 with
      | [] => simp at h
      | b1 :: l2 =>
        have hb1 := b1.toNat_lt
        simp only [List.length_cons, List.getD_cons_zero, List.getD_cons_succ] at h
        split at h
        · rename_i h2
          split at h
          · rename_i h3
            simp only [Bool.and_eq_true, beq_iff_eq, decide_eq_true_eq] at h2
            obtain ⟨rfl, rfl⟩ : b0.toNat % 32 * 64 + b1.toNat % 64 = c ∧ 2 = k := by simpa using h
            refine ⟨(valid_iff _).2 (by omega), by unfold encLen; rw [if_neg (by omega), if_pos (by omega)], ?_⟩
            unfold enc
            rw [if_neg (by omega), if_pos (by omega), ofNat_eq b0 _ (by omega), ofNat_eq b1 _ (by omega)]
            rfl
          · cases h
        · match l2 with
          | [] => simp at h
          | b2 :: l3 =>
            have hb2 := b2.toNat_lt
            simp only [List.length_cons, List.getD_cons_zero, List.getD_cons_succ] at h
            split at h
            · rename_i h2
              split at h
              · rename_i h3
                simp only [Bool.and_eq_true, beq_iff_eq, decide_eq_true_eq] at h2 h3
                obtain ⟨rfl, rfl⟩ : b0.toNat % 16 * 4096 + b1.toNat % 64 * 64 + b2.toNat % 64 = c ∧ 3 = k := by simpa using h
                refine ⟨h3.2, by unfold encLen; rw [if_neg (by omega), if_neg (by omega), if_pos (by omega)], ?_⟩
                unfold enc
                rw [if_neg (by omega), if_neg (by omega), if_pos (by omega), ofNat_eq b0 _ (by omega), ofNat_eq b1 _ (by omega), ofNat_eq b2 _ (by omega)]
                rfl
              · cases h
            · match l3 with
              | [] => simp at h
              | b3 :: l4 =>
                have hb3 := b3.toNat_lt
                simp only [List.length_cons, List.getD_cons_zero] at h
                split at h
                · rename_i h2
                  split at h
                  · rename_i h3
                    simp only [Bool.and_eq_true, beq_iff_eq, decide_eq_true_eq] at h2 h3
                    obtain ⟨rfl, rfl⟩ : b0.toNat % 8 * 262144 + b1.toNat % 64 * 4096 + b2.toNat % 64 * 64 + b3.toNat % 64 = c ∧ 4 = k := by simpa using h
                    have hv := (valid_iff _).1 h3.2
                    refine ⟨h3.2, by unfold encLen; rw [if_neg (by omega), if_neg (by omega), if_neg (by omega)], ?_⟩
                    unfold enc
                    rw [if_neg (by omega), if_neg (by omega), if_neg (by omega), ofNat_eq b0 _ (by omega), ofNat_eq b1 _ (by omega), ofNat_eq b2 _ (by omega), ofNat_eq b3 _ (by omega)]
                    rfl
                  · cases h
                · cases h

theorem dec_len {l : List UInt8} {c k : Nat} (h : dec l = some (c, k)) : 1 ≤ k ∧ k ≤ 4 ∧ k ≤ l.length := by
  obtain ⟨_, rfl, e⟩ := dec_some h
  have := encLen_bd c
  have := enc_length c
  have hl := congrArg List.length e
  rw [List.length_append] at hl
  omega

/-- Places and code points, from a place on, with fuel. -/
def runesF (l : List UInt8) : Nat → Nat → List (Nat × Nat)
  | 0, _ => []
  | k + 1, p => match dec (l.drop p) with
    | some (c, n) => (p, c) :: runesF l k (p + n)
    | none => []
/-- Places and code points, from a place on. -/
def runesAt (l : List UInt8) (p : Nat) : List (Nat × Nat) := runesF l (l.length - p) p

theorem runesF_enough (l : List UInt8) : ∀ k p, l.length - p ≤ k → runesF l k p = runesF l (l.length - p) p := by
  intro k
  induction k using Nat.strongRecOn with
  | _ k ih =>
    intro p hk
    cases hd : dec (l.drop p) with
    | none =>
      have e : ∀ j, runesF l j p = [] := by
        intro j
        cases j with
        | zero => rfl
        | succ j => simp [runesF, hd]
      rw [e, e]
    | some x =>
      obtain ⟨c, n⟩ := x
      have hl := dec_len hd
      rw [List.length_drop] at hl
      obtain ⟨j, hj⟩ : ∃ j, l.length - p = j + 1 := ⟨l.length - p - 1, by omega⟩
      obtain ⟨i, hi⟩ : ∃ i, k = i + 1 := ⟨k - 1, by omega⟩
      rw [hj, hi]
      simp only [runesF, hd]
      rw [ih i (by omega) (p + n) (by omega)]
      by_cases hji : j < k
      · rw [ih j hji (p + n) (by omega)]
      · omega

theorem runesAt_some {l : List UInt8} {p c n : Nat} (h : dec (l.drop p) = some (c, n)) : runesAt l p = (p, c) :: runesAt l (p + n) := by
  have hl := dec_len h
  rw [List.length_drop] at hl
  obtain ⟨j, hj⟩ : ∃ j, l.length - p = j + 1 := ⟨l.length - p - 1, by omega⟩
  have e : runesAt l p = (p, c) :: runesF l j (p + n) := by
    unfold runesAt
    rw [hj]
    simp [runesF, h]
  rw [e, runesF_enough l j _ (by omega)]
  rfl
theorem runesAt_none {l : List UInt8} {p : Nat} (h : dec (l.drop p) = none) : runesAt l p = [] := by
  unfold runesAt
  cases l.length - p with
  | zero => rfl
  | succ j => simp [runesF, h]
theorem dec_nil : dec [] = none := rfl
theorem runesAt_end {l : List UInt8} {p : Nat} (h : l.length ≤ p) : runesAt l p = [] := runesAt_none (by rw [List.drop_of_length_le h]; rfl)

/-- Where the last one ends. -/
def endOf (p : Nat) (rs : List (Nat × Nat)) : Nat := rs.foldl (fun _ x => x.1 + encLen x.2) p
theorem endOf_snoc (p : Nat) (rs : List (Nat × Nat)) (x : Nat × Nat) : endOf p (rs ++ [x]) = x.1 + encLen x.2 := by simp [endOf]
theorem endOf_cons (p : Nat) (rs : List (Nat × Nat)) (x : Nat × Nat) : endOf p (x :: rs) = endOf (x.1 + encLen x.2) rs := rfl

/-- All the code points of a text, and where they end. -/
def runesB (s : ByteArray) : List (Nat × Nat) := runesAt s.data.toList 0
def goodEnd (s : ByteArray) : Nat := endOf 0 (runesB s)
def whole (s : ByteArray) : Bool := decide (goodEnd s = s.size)
def badB (s : ByteArray) : Int := if whole s then -1 else (goodEnd s : Nat)

theorem endOf_le (l : List UInt8) : ∀ k p, l.length - p ≤ k → p ≤ l.length → endOf p (runesAt l p) ≤ l.length := by
  intro k
  induction k with
  | zero => intro p hk hp; rw [runesAt_end (by omega)]; exact hp
  | succ k ih =>
    intro p hk hp
    cases hd : dec (l.drop p) with
    | none => rw [runesAt_none hd]; exact hp
    | some x =>
      obtain ⟨c, n⟩ := x
      have hl := dec_len hd
      rw [List.length_drop] at hl
      obtain ⟨_, rfl, _⟩ := dec_some hd
      rw [runesAt_some hd, endOf_cons]
      dsimp only
      exact ih _ (by omega) (by omega)
theorem goodEnd_le (s : ByteArray) : goodEnd s ≤ s.size := by
  have := endOf_le s.data.toList _ 0 (Nat.le_refl _) (Nat.zero_le _)
  simpa [goodEnd, runesB] using this

theorem runesAt_length (l : List UInt8) : ∀ k p, l.length - p ≤ k → (runesAt l p).length ≤ l.length - p := by
  intro k
  induction k with
  | zero => intro p hk; rw [runesAt_end (by omega)]; simp
  | succ k ih =>
    intro p hk
    cases hd : dec (l.drop p) with
    | none => rw [runesAt_none hd]; simp
    | some x =>
      obtain ⟨c, n⟩ := x
      have hl := dec_len hd
      rw [List.length_drop] at hl
      have h2 := ih (p + n) (by omega)
      rw [runesAt_some hd, List.length_cons]
      omega
theorem runesB_length (s : ByteArray) : (runesB s).length ≤ s.size := by
  have := runesAt_length s.data.toList _ 0 (Nat.le_refl _)
  simpa [runesB] using this

/-- Each one is a code point at a place of the text, written there. -/
theorem runesAt_mem (l : List UInt8) : ∀ k p, l.length - p ≤ k → ∀ x ∈ runesAt l p, Utf8.valid x.2 = true ∧ x.1 + encLen x.2 ≤ l.length ∧ p ≤ x.1 ∧ dec (l.drop x.1) = some (x.2, encLen x.2) := by
  intro k
  induction k with
  | zero => intro p hk x hx; rw [runesAt_end (by omega)] at hx; cases hx
  | succ k ih =>
    intro p hk x hx
    cases hd : dec (l.drop p) with
    | none => rw [runesAt_none hd] at hx; cases hx
    | some y =>
      obtain ⟨c, n⟩ := y
      have hl := dec_len hd
      rw [List.length_drop] at hl
      obtain ⟨hv, rfl, _⟩ := dec_some hd
      rw [runesAt_some hd] at hx
      rcases List.mem_cons.1 hx with rfl | hx
      · exact ⟨hv, by dsimp only; omega, Nat.le_refl _, hd⟩
      · obtain ⟨h1, h2, h3, h4⟩ := ih _ (by omega) x hx
        exact ⟨h1, h2, by omega, h4⟩
theorem runesB_mem {s : ByteArray} {x : Nat × Nat} (h : x ∈ runesB s) : Utf8.valid x.2 = true ∧ x.1 + encLen x.2 ≤ s.size ∧ dec (s.data.toList.drop x.1) = some (x.2, encLen x.2) := by
  obtain ⟨h1, h2, _, h4⟩ := runesAt_mem s.data.toList _ 0 (Nat.le_refl _) x h
  exact ⟨h1, by simpa using h2, h4⟩
end Go.Proofs.YtheidjnapoipaaaGreatDoor
