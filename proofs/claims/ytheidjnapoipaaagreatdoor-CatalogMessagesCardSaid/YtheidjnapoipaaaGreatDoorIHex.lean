/- Ids as texts, plainly: two letters a byte, four strokes. -/
import Derived.Test.YtheidjnapoipaaaGreatDoorBaseE
namespace Go.Proofs.YtheidjnapoipaaaGreatDoor
open Go.RowKit
set_option linter.unusedVariables false

/-- A digit's letter. -/
def hx (d : Nat) : UInt8 := hexS.data.toList.getD d 0
/-- The letters of bytes. -/
def hexL (l : List UInt8) : List UInt8 := l.flatMap fun b => [hx (b.toNat / 16), hx (b.toNat % 16)]
theorem hexL_nil : hexL [] = [] := rfl
theorem hexL_cons (b : UInt8) (l : List UInt8) : hexL (b :: l) = hx (b.toNat / 16) :: hx (b.toNat % 16) :: hexL l := rfl
theorem hexL_append (l m : List UInt8) : hexL (l ++ m) = hexL l ++ hexL m := by simp [hexL]
theorem hexL_length : ∀ l : List UInt8, (hexL l).length = 2 * l.length
  | [] => rfl
  | b :: l => by rw [hexL_cons, List.length_cons, List.length_cons, List.length_cons, hexL_length l]; omega

theorem dg16r : ∀ l : List UInt8, dg 16 (getL l.reverse) (2 * l.length) = l.reverse.flatMap fun b => [b.toNat / 16, b.toNat % 16]
  | [] => rfl
  | b :: l => by
    have hb := UInt8.toNat_lt b
    have ih := dg16r l
    rw [List.reverse_cons, getL_snoc, List.length_cons, show 2 * (l.length + 1) = (2 * l.length + 1) + 1 by omega, dg, dg, List.flatMap_append]
    rw [show (getL l.reverse * 256 + b.toNat) / 16 / 16 = getL l.reverse by omega, ih]
    rw [show (getL l.reverse * 256 + b.toNat) / 16 % 16 = b.toNat / 16 by omega, show (getL l.reverse * 256 + b.toNat) % 16 = b.toNat % 16 by omega]
    simp
theorem dg16 (l : List UInt8) : dg 16 (getL l) (2 * l.length) = l.flatMap fun b => [b.toNat / 16, b.toNat % 16] := by
  have h := dg16r l.reverse
  rwa [List.reverse_reverse, List.length_reverse] at h

theorem encL_hex (l : List UInt8) : encL hexS 4 false l = hexL l := by
  have h1 : mOf 4 l.length = 2 * l.length := by unfold mOf; omega
  have h2 : padOf 4 l.length = 0 := by unfold padOf; rw [h1]; omega
  have h3 : szA 4 false l.length = 2 * l.length := by
    simp only [szA, Bool.false_and, Bool.false_eq_true, if_false]; omega
  unfold encL encN
  rw [h1, h2, h3, Nat.sub_self, Nat.pow_zero, Nat.mul_one, show (2 : Nat) ^ 4 = 16 by rfl, dg16, List.replicate_zero, List.append_nil]
  unfold hexL
  induction l with
  | nil => rfl
  | cons b l ih => simp only [List.flatMap_cons, List.map_append, List.map_cons, List.map_nil]; rw [List.map_flatMap] ; simp [hx]
theorem encS_hex (s : ByteArray) : encS hexS 4 false s = ⟨(hexL s.data.toList).toArray⟩ := by unfold encS; rw [encL_hex]

/-- An id's text. -/
def idL (l : List UInt8) : List UInt8 := hexL (l.take 4) ++ 45 :: (hexL ((l.drop 4).take 2) ++ 45 :: (hexL ((l.drop 6).take 2) ++ 45 :: (hexL ((l.drop 8).take 2) ++ 45 :: hexL (l.drop 10))))
theorem idL_length (l : List UInt8) (h : l.length = 16) : (idL l).length = 36 := by
  unfold idL
  simp only [List.length_append, List.length_cons, hexL_length, List.length_take, List.length_drop, h]
  omega

/-- Of one size texts stand as their parts do. -/
theorem lt_append {a b c d : List UInt8} (h : a.length = b.length) : a ++ c < b ++ d ↔ a < b ∨ (a = b ∧ c < d) := by
  induction a generalizing b with
  | nil =>
    have : b = [] := List.eq_nil_of_length_eq_zero h.symm
    subst this
    simp
  | cons x a ih =>
    cases b with
    | nil => simp at h
    | cons y b =>
      have h' : a.length = b.length := by simpa using h
      rw [List.cons_append, List.cons_append, List.cons_lt_cons_iff, List.cons_lt_cons_iff, ih h']
      constructor
      · rintro (h1 | ⟨rfl, h1 | ⟨rfl, h2⟩⟩)
        · exact .inl (.inl h1)
        · exact .inl (.inr ⟨rfl, h1⟩)
        · exact .inr ⟨rfl, h2⟩
      · rintro ((h1 | ⟨rfl, h1⟩) | ⟨h1, h2⟩)
        · exact .inl h1
        · exact .inr ⟨rfl, .inl h1⟩
        · injection h1 with e1 e2
          subst e1; subst e2
          exact .inr ⟨rfl, .inr ⟨rfl, h2⟩⟩
theorem hx_lt : ∀ a, a < 16 → ∀ b, b < 16 → (hx a < hx b ↔ a < b) := by decide +kernel
theorem hx_inj : ∀ a, a < 16 → ∀ b, b < 16 → (hx a = hx b ↔ a = b) := by decide +kernel
theorem hx2_lt (x y : UInt8) : [hx (x.toNat / 16), hx (x.toNat % 16)] < [hx (y.toNat / 16), hx (y.toNat % 16)] ↔ x < y := by
  have h1 := UInt8.toNat_lt x
  have h2 := UInt8.toNat_lt y
  rw [List.cons_lt_cons_iff, List.cons_lt_cons_iff, hx_lt _ (by omega) _ (by omega), hx_inj _ (by omega) _ (by omega), hx_lt _ (by omega) _ (by omega), UInt8.lt_iff_toNat_lt]
  simp only [List.not_lt_nil, and_false, or_false]
  omega
theorem hx2_inj (x y : UInt8) : [hx (x.toNat / 16), hx (x.toNat % 16)] = [hx (y.toNat / 16), hx (y.toNat % 16)] ↔ x = y := by
  have h1 := UInt8.toNat_lt x
  have h2 := UInt8.toNat_lt y
  constructor
  · intro h
    injection h with e1 e2
    injection e2 with e2 _
    rw [hx_inj _ (by omega) _ (by omega)] at e1 e2
    exact UInt8.toNat_inj.1 (by omega)
  · rintro rfl; rfl
theorem hexL_lt : ∀ {a b : List UInt8}, a.length = b.length → (hexL a < hexL b ↔ a < b)
  | [], [], _ => by simp [hexL_nil]
  | [], _ :: _, h => by simp at h
  | _ :: _, [], h => by simp at h
  | x :: a, y :: b, h => by
    have ih := hexL_lt (a := a) (b := b) (by simpa using h)
    show [hx (x.toNat / 16), hx (x.toNat % 16)] ++ hexL a < [hx (y.toNat / 16), hx (y.toNat % 16)] ++ hexL b ↔ _
    rw [lt_append (by rfl), hx2_lt, hx2_inj, ih, List.cons_lt_cons_iff]
theorem hexL_inj : ∀ {a b : List UInt8}, hexL a = hexL b → a = b
  | [], [], _ => rfl
  | [], _ :: _, h => by simp [hexL_nil, hexL_cons] at h
  | _ :: _, [], h => by simp [hexL_nil, hexL_cons] at h
  | x :: a, y :: b, h => by
    rw [hexL_cons, hexL_cons] at h
    injection h with e1 e2
    injection e2 with e2 e3
    rw [hexL_inj e3, (hx2_inj x y).1 (by rw [e1, e2])]

/-- The parts of an id, one behind the other. -/
theorem parts_id (l : List UInt8) : l.take 4 ++ ((l.drop 4).take 2 ++ ((l.drop 6).take 2 ++ ((l.drop 8).take 2 ++ l.drop 10))) = l := by
  have e (n m : Nat) (X : List UInt8) (hX : X = l.drop (n + m)) : (l.drop n).take m ++ X = l.drop n := by
    rw [hX, ← List.drop_drop]; exact List.take_append_drop _ _
  rw [e 8 2 _ rfl, e 6 2 _ rfl, e 4 2 _ rfl]
  exact List.take_append_drop _ _
theorem idL_lt {a b : List UInt8} (ha : a.length = 16) (hb : b.length = 16) : idL a < idL b ↔ a < b := by
  have g (n m : Nat) : ((a.drop n).take m).length = ((b.drop n).take m).length := by rw [List.length_take, List.length_take, List.length_drop, List.length_drop, ha, hb]
  have gh (x y : List UInt8) (h : x.length = y.length) : (hexL x).length = (hexL y).length := by rw [hexL_length, hexL_length, h]
  have st (x y x' y' c d c' d' : List UInt8) (h : x.length = y.length) (hc : c < d ↔ c' < d') : hexL x ++ 45 :: c < hexL y ++ 45 :: d ↔ x ++ c' < y ++ d' := by
    rw [lt_append (gh x y h), lt_append h, List.cons_lt_cons_iff, hc, hexL_lt h]
    constructor
    · rintro (h1 | ⟨h1, h2 | ⟨_, h2⟩⟩)
      · exact .inl h1
      · exact absurd h2 (UInt8.lt_irrefl _)
      · exact .inr ⟨hexL_inj h1, h2⟩
    · rintro (h1 | ⟨rfl, h2⟩)
      · exact .inl h1
      · exact .inr ⟨rfl, .inr ⟨rfl, h2⟩⟩
  have e : idL a < idL b ↔ (a.take 4 ++ ((a.drop 4).take 2 ++ ((a.drop 6).take 2 ++ ((a.drop 8).take 2 ++ a.drop 10)))) < (b.take 4 ++ ((b.drop 4).take 2 ++ ((b.drop 6).take 2 ++ ((b.drop 8).take 2 ++ b.drop 10)))) := by
    unfold idL
    exact st _ _ [] [] _ _ _ _ (g 0 4) (st _ _ [] [] _ _ _ _ (g 4 2) (st _ _ [] [] _ _ _ _ (g 6 2) (st _ _ [] [] _ _ _ _ (g 8 2) (hexL_lt (by rw [List.length_drop, List.length_drop, ha, hb])))))
  rw [e, parts_id, parts_id]
theorem idL_inj {a b : List UInt8} (ha : a.length = 16) (hb : b.length = 16) (h : idL a = idL b) : a = b := by
  have g (n m : Nat) : (hexL ((a.drop n).take m)).length = (hexL ((b.drop n).take m)).length := by rw [hexL_length, hexL_length, List.length_take, List.length_take, List.length_drop, List.length_drop, ha, hb]
  unfold idL at h
  have h0 := List.append_inj h (g 0 4)
  have h1 := List.append_inj (List.cons.inj h0.2).2 (g 4 2)
  have h2 := List.append_inj (List.cons.inj h1.2).2 (g 6 2)
  have h3 := List.append_inj (List.cons.inj h2.2).2 (g 8 2)
  rw [← parts_id a, ← parts_id b, hexL_inj h0.1, hexL_inj h1.1, hexL_inj h2.1, hexL_inj h3.1, hexL_inj (List.cons.inj h3.2).2]
end Go.Proofs.YtheidjnapoipaaaGreatDoor
