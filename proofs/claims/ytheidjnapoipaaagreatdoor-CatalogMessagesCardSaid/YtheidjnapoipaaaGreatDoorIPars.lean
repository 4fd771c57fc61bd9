/- Ids read, plainly. -/
import Derived.Lib.Replace
import Derived.Lib.CountLaws
import Derived.Lib.IndexBytes
import Derived.Test.YtheidjnapoipaaaGreatDoorIHex
import Derived.Test.YtheidjnapoipaaaGreatDoorBase
namespace Go.Proofs.YtheidjnapoipaaaGreatDoor
open Go.RowKit
set_option linter.unusedVariables false

/-- The strokes struck. -/
def strip (s : List UInt8) : List UInt8 := s.filter (· != 45)
theorem index_stroke (b : UInt8) (l : List UInt8) : Lib.index (b :: l) [45] = if b = 45 then 0 else if Lib.index l [45] = -1 then -1 else Lib.index l [45] + 1 := by
  rw [Lib.index]
  by_cases h : b = 45
  · subst h; simp [List.isPrefixOf]
  · have h' : ¬ (45 = b) := fun e => h e.symm
    simp [List.isPrefixOf, h, h']
theorem repl_cons (b : UInt8) (l : List UInt8) (h : b ≠ 45) : ∀ k, Lib.replaceK [45] [] k (b :: l) = b :: Lib.replaceK [45] [] k l
  | 0 => rfl
  | k + 1 => by
    have hg := Lib.index_ge l [45]
    have hi := index_stroke b l
    rw [if_neg h] at hi
    by_cases hm : Lib.index l [45] = -1
    · rw [if_pos hm] at hi
      rw [Lib.replaceK, Lib.replaceK, if_pos (beq_iff_eq.2 hi), if_pos (beq_iff_eq.2 hm)]
    · rw [if_neg hm] at hi
      obtain ⟨j, hj⟩ : ∃ j : Nat, Lib.index l [45] = j := ⟨(Lib.index l [45]).toNat, by omega⟩
      rw [Lib.replaceK_hit _ _ _ _ j hj, Lib.replaceK_hit _ _ _ _ (j + 1) (by rw [hi, hj]; rfl)]
      simp [List.take_succ_cons]
theorem count_stroke (l : List UInt8) : Lib.count (45 :: l) [45] = 1 + Lib.count l [45] := by
  rw [Lib.count_hit (i := 0) (by simp) (by rw [index_stroke, if_pos rfl]; rfl)]
  simp
theorem count_other (b : UInt8) (l : List UInt8) (h : b ≠ 45) : Lib.count (b :: l) [45] = Lib.count l [45] := by
  have hg := Lib.index_ge l [45]
  have hi := index_stroke b l
  rw [if_neg h] at hi
  by_cases hm : Lib.index l [45] = -1
  · rw [if_pos hm] at hi
    rw [Lib.count_miss hi, Lib.count_miss hm]
  · rw [if_neg hm] at hi
    obtain ⟨j, hj⟩ : ∃ j : Nat, Lib.index l [45] = j := ⟨(Lib.index l [45]).toNat, by omega⟩
    rw [Lib.count_hit (by simp) hj, Lib.count_hit (i := j + 1) (by simp) (by rw [hi, hj]; rfl)]
    simp
theorem repl_strip : ∀ (s : List UInt8) (k : Nat), Lib.count s [45] ≤ k → Lib.replaceK [45] [] k s = strip s
  | [], k, _ => by
    cases k with
    | zero => rfl
    | succ k => rw [Lib.replaceK, if_pos (by rfl)]; rfl
  | b :: l, k, h => by
    by_cases hb : b = 45
    · subst hb
      rw [count_stroke] at h
      obtain ⟨k', rfl⟩ : ∃ k', k = k' + 1 := ⟨k - 1, by omega⟩
      rw [Lib.replaceK_hit _ _ _ _ 0 (by rw [index_stroke, if_pos rfl]; rfl)]
      simp only [List.take_zero, List.nil_append, List.length_cons, List.length_nil, Nat.zero_add, List.drop_succ_cons, List.drop_zero]
      rw [repl_strip l k' (by omega)]
      unfold strip
      rw [List.filter_cons_of_neg (by decide)]
    · rw [count_other b l hb] at h
      rw [repl_cons b l hb, repl_strip l k h]
      unfold strip
      rw [List.filter_cons_of_pos (by simpa using hb)]
theorem replaceAll_strip (s : List UInt8) : Lib.replaceAll s [45] [] = strip s := by
  unfold Lib.replaceAll Lib.replace
  rw [if_neg (by decide)]
  exact repl_strip s _ (by unfold Lib.replaceNum; rw [if_pos (.inl (by decide))]; exact Nat.le_refl _)

/-- An id's letters, with the strokes. -/
def mkId (A B C D E : List UInt8) : List UInt8 := A ++ 45 :: (B ++ 45 :: (C ++ 45 :: (D ++ 45 :: E)))
theorem hexL_take (n : Nat) : ∀ l : List UInt8, hexL (l.take n) = (hexL l).take (2 * n) := by
  induction n with
  | zero => intro l; rfl
  | succ n ih =>
    intro l
    cases l with
    | nil => simp [hexL_nil]
    | cons b l => rw [List.take_succ_cons, hexL_cons, hexL_cons, ih, show 2 * (n + 1) = 2 * n + 1 + 1 by omega, List.take_succ_cons, List.take_succ_cons]
theorem hexL_drop (n : Nat) : ∀ l : List UInt8, hexL (l.drop n) = (hexL l).drop (2 * n) := by
  induction n with
  | zero => intro l; rfl
  | succ n ih =>
    intro l
    cases l with
    | nil => simp [hexL_nil]
    | cons b l => rw [List.drop_succ_cons, hexL_cons, ih, show 2 * (n + 1) = 2 * n + 1 + 1 by omega, List.drop_succ_cons, List.drop_succ_cons]
theorem idL_mk (l : List UInt8) : idL l = mkId ((hexL l).take 8) (((hexL l).drop 8).take 4) (((hexL l).drop 12).take 4) (((hexL l).drop 16).take 4) ((hexL l).drop 20) := by
  unfold idL mkId
  rw [hexL_take, hexL_take, hexL_take, hexL_take, hexL_drop, hexL_drop, hexL_drop, hexL_drop]
/-- A text of 36 bytes with its strokes, in parts. -/
theorem mk_parts (s : List UInt8) (h : s.length = 36) (h8 : s[8]? = some 45) (h13 : s[13]? = some 45) (h18 : s[18]? = some 45) (h23 : s[23]? = some 45) :
    s = mkId (s.take 8) ((s.drop 9).take 4) ((s.drop 14).take 4) ((s.drop 19).take 4) (s.drop 24) := by
  have st (n : Nat) (hn : s[n]? = some 45) : s.drop n = 45 :: s.drop (n + 1) := by
    have hl : n < s.length := (List.getElem?_eq_some_iff.1 hn).1
    rw [List.drop_eq_getElem_cons hl]
    congr 1
    rw [List.getElem?_eq_getElem hl] at hn
    exact Option.some.inj hn
  have sp (n m : Nat) : s.drop n = (s.drop n).take m ++ s.drop (n + m) := by rw [← List.drop_drop]; exact (List.take_append_drop m _).symm
  unfold mkId
  conv => lhs; rw [← List.take_append_drop 8 s, st 8 h8, sp 9 4, st 13 h13, sp 14 4, st 18 h18, sp 19 4, st 23 h23]
theorem hx_stroke : ∀ d, d < 16 → (hx d != 45) = true := by decide +kernel
theorem strip_hex : ∀ l : List UInt8, strip (hexL l) = hexL l
  | [] => rfl
  | b :: l => by
    have hb := UInt8.toNat_lt b
    have ih := strip_hex l
    unfold strip at ih ⊢
    rw [hexL_cons, List.filter_cons_of_pos (p := fun x => x != 45) (hx_stroke _ (by omega)), List.filter_cons_of_pos (p := fun x => x != 45) (hx_stroke _ (by omega)), ih]
theorem strip_append (a b : List UInt8) : strip (a ++ b) = strip a ++ strip b := by unfold strip; exact List.filter_append ..
theorem strip_cons (a : List UInt8) : strip (45 :: a) = strip a := by unfold strip; rw [List.filter_cons_of_neg (by decide)]
theorem strip_id (l : List UInt8) : strip (idL l) = hexL l := by
  unfold idL
  rw [strip_append, strip_cons, strip_append, strip_cons, strip_append, strip_cons, strip_append, strip_cons, strip_hex, strip_hex, strip_hex, strip_hex, strip_hex]
  rw [← hexL_append, ← hexL_append, ← hexL_append, ← hexL_append]
  rw [parts_id]

/-- What a text is the text of. -/
def IsId (s l : List UInt8) : Prop := l.length = 16 ∧ idL l = s
theorem IsId.uniq {s l m : List UInt8} (h : IsId s l) (h' : IsId s m) : l = m := idL_inj h.1 h'.1 (h.2.trans h'.2.symm)

/-- The letters without strokes, as the document cuts them. -/
def cutId (s : List UInt8) : List UInt8 := s.take 8 ++ (s.drop 9).take 4 ++ (s.drop 14).take 4 ++ (s.drop 19).take 4 ++ s.drop 24
theorem cut_mk (A B C D E : List UInt8) (hA : A.length = 8) (hB : B.length = 4) (hC : C.length = 4) (hD : D.length = 4) : cutId (mkId A B C D E) = A ++ B ++ C ++ D ++ E := by
  have e (X Y : List UInt8) (n : Nat) (h : X.length = n) : (X ++ Y).take n = X := by rw [← h]; exact List.take_left ..
  have f (X Y : List UInt8) (n m : Nat) (h : X.length = n) : (X ++ 45 :: Y).drop (n + 1 + m) = Y.drop m := by
    rw [show n + 1 + m = X.length + (1 + m) by omega, List.drop_append, Nat.add_comm 1 m]
    simp
  unfold cutId
  have d1 : (mkId A B C D E).drop 9 = B ++ 45 :: (C ++ 45 :: (D ++ 45 :: E)) := f _ _ 8 0 hA
  have d2 : (mkId A B C D E).drop 14 = C ++ 45 :: (D ++ 45 :: E) := (f _ _ 8 5 hA).trans (f _ _ 4 0 hB)
  have d3 : (mkId A B C D E).drop 19 = D ++ 45 :: E := ((f _ _ 8 10 hA).trans (f _ _ 4 5 hB)).trans (f _ _ 4 0 hC)
  have d4 : (mkId A B C D E).drop 24 = E := (((f _ _ 8 15 hA).trans (f _ _ 4 10 hB)).trans (f _ _ 4 5 hC)).trans (f _ _ 4 0 hD)
  rw [d1, d2, d3, d4, e _ _ _ hB, e _ _ _ hC, e _ _ _ hD]
  unfold mkId
  rw [e _ _ _ hA]
theorem cut_id (l : List UInt8) (h : l.length = 16) : cutId (idL l) = hexL l := by
  have hl : (hexL l).length = 32 := by rw [hexL_length, h]
  rw [idL_mk, cut_mk _ _ _ _ _ (by rw [List.length_take, hl]; rfl) (by rw [List.length_take, List.length_drop, hl]; rfl) (by rw [List.length_take, List.length_drop, hl]; rfl) (by rw [List.length_take, List.length_drop, hl]; rfl)]
  have sp (n m : Nat) : ((hexL l).drop n).take m ++ (hexL l).drop (n + m) = (hexL l).drop n := by rw [← List.drop_drop]; exact List.take_append_drop m _
  rw [List.append_assoc, List.append_assoc, List.append_assoc, sp 16 4, sp 12 4, sp 8 4, List.take_append_drop]
/-- A text of 36 bytes with strokes whose letters are an id's is its text. -/
theorem isId_of_cut (s l : List UInt8) (h : s.length = 36) (h8 : s[8]? = some 45) (h13 : s[13]? = some 45) (h18 : s[18]? = some 45) (h23 : s[23]? = some 45) (hc : cutId s = hexL l) : IsId s l := by
  have hp := mk_parts s h h8 h13 h18 h23
  have hlen : (cutId s).length = 32 := by unfold cutId; simp [h]
  have hl : l.length = 16 := by rw [hc, hexL_length] at hlen; omega
  refine ⟨hl, ?_⟩
  have hcut : hexL l = s.take 8 ++ (s.drop 9).take 4 ++ (s.drop 14).take 4 ++ (s.drop 19).take 4 ++ s.drop 24 := hc.symm
  have l0 : (s.take 8).length = 8 := by simp [h]
  have l1 : ((s.drop 9).take 4).length = 4 := by simp [h]
  have l2 : ((s.drop 14).take 4).length = 4 := by simp [h]
  have l3 : ((s.drop 19).take 4).length = 4 := by simp [h]
  rw [idL_mk, hcut]
  conv => rhs; rw [hp]
  generalize s.take 8 = A at *
  generalize (s.drop 9).take 4 = B at *
  generalize (s.drop 14).take 4 = C at *
  generalize (s.drop 19).take 4 = D at *
  generalize s.drop 24 = E at *
  have e (X Y : List UInt8) (n : Nat) (h : X.length = n) : (X ++ Y).take n = X := by rw [← h]; exact List.take_left ..
  have f (X Y : List UInt8) (n m : Nat) (h : X.length = n) : (X ++ Y).drop (n + m) = Y.drop m := by
    rw [← h, List.drop_append]
    simp
  simp only [List.append_assoc]
  rw [e _ _ _ l0, f _ _ 8 0 l0, f _ _ 8 4 l0, f _ _ 8 8 l0, f _ _ 8 12 l0, f _ _ 4 0 l1, f _ _ 4 4 l1, f _ _ 4 8 l1, f _ _ 4 0 l2, f _ _ 4 4 l2, f _ _ 4 0 l3]
  simp only [List.drop_zero]
  rw [e _ _ _ l1, e _ _ _ l2, e _ _ _ l3]
theorem id_strokes (l : List UInt8) (h : l.length = 16) : (idL l)[8]? = some 45 ∧ (idL l)[13]? = some 45 ∧ (idL l)[18]? = some 45 ∧ (idL l)[23]? = some 45 := by
  have a0 : (hexL (l.take 4)).length = 8 := by rw [hexL_length, List.length_take, h]; rfl
  have a1 : (hexL ((l.drop 4).take 2)).length = 4 := by rw [hexL_length, List.length_take, List.length_drop, h]; rfl
  have a2 : (hexL ((l.drop 6).take 2)).length = 4 := by rw [hexL_length, List.length_take, List.length_drop, h]; rfl
  have a3 : (hexL ((l.drop 8).take 2)).length = 4 := by rw [hexL_length, List.length_take, List.length_drop, h]; rfl
  unfold idL
  have g0 (X Y : List UInt8) (n : Nat) (hX : X.length = n) : (X ++ 45 :: Y)[n]? = some 45 := by
    rw [List.getElem?_append_right (by omega), hX, Nat.sub_self]; rfl
  have g1 (X Y : List UInt8) (n m : Nat) (hX : X.length = n) : (X ++ 45 :: Y)[n + 1 + m]? = Y[m]? := by
    rw [List.getElem?_append_right (by omega), hX, show n + 1 + m - n = m + 1 by omega]; rfl
  exact ⟨g0 _ _ 8 a0, (g1 _ _ 8 4 a0).trans (g0 _ _ 4 a1), ((g1 _ _ 8 9 a0).trans (g1 _ _ 4 4 a1)).trans (g0 _ _ 4 a2), (((g1 _ _ 8 14 a0).trans (g1 _ _ 4 9 a1)).trans (g1 _ _ 4 4 a2)).trans (g0 _ _ 4 a3)⟩
/-- The bytes of letters. -/
theorem dec_hex (l : List UInt8) : decS hexS 4 ⟨(hexL l).toArray⟩ = ⟨l.toArray⟩ := by
  have h := dec_enc hexS 4 false ⟨l.toArray⟩ (.inl rfl) rfl hex_ix (by decide +kernel)
  rw [encS_hex] at h
  exact h
end Go.Proofs.YtheidjnapoipaaaGreatDoor
