/- Plain facts on versions: the pieces between dots, three numbers as a text. Nothing of the program stands here. -/
import Derived.WalkKit
import Derived.Lib.Split
import Derived.Lib.SplitLaws
import Derived.Lib.IndexBytes
import Derived.Lib.IndexLaws
import Derived.Lib.ItoaLen
import Derived.Test.YtldjnegoefdadaaGreatDoorVDig
namespace Go.Proofs.YtldjnegoefdadaaGreatDoor
open Go.RowKit
set_option linter.unusedVariables false

/-- The pieces between dots, t being what of the first one is gone by. -/
def spl : List UInt8 → List UInt8 → List (List UInt8)
  | t, [] => [t]
  | t, c :: r => if c = 46 then t :: spl [] r else spl (t ++ [c]) r
theorem spl_dot (t r : List UInt8) : spl t (46 :: r) = t :: spl [] r := by rw [spl, if_pos rfl]
theorem spl_char (t r : List UInt8) (c : UInt8) (h : c ≠ 46) : spl t (c :: r) = spl (t ++ [c]) r := by rw [spl, if_neg h]
theorem spl_free (p : List UInt8) : ∀ t r, 46 ∉ p → spl t (p ++ r) = spl (t ++ p) r := by
  induction p with
  | nil => intro t r _; simp
  | cons c p ih =>
    intro t r h
    rw [List.cons_append, spl_char _ _ _ (fun e => h (by rw [e]; exact List.mem_cons_self)), ih _ _ (fun e => h (List.mem_cons_of_mem _ e))]
    simp
def joinD : List (List UInt8) → List UInt8
  | [] => []
  | [p] => p
  | p :: q :: r => p ++ 46 :: joinD (q :: r)
theorem spl_ne (r : List UInt8) : ∀ t, ∃ p l, spl t r = p :: l := by
  induction r with
  | nil => intro t; exact ⟨_, _, rfl⟩
  | cons c r ih =>
    intro t
    rw [spl]
    split
    · exact ⟨_, _, rfl⟩
    · exact ih _
theorem spl_join (r : List UInt8) : ∀ t, joinD (spl t r) = t ++ r := by
  induction r with
  | nil => intro t; simp [spl, joinD]
  | cons c r ih =>
    intro t
    rw [spl]
    split
    · rename_i h
      obtain ⟨p, l, e⟩ := spl_ne r []
      have h2 := ih []
      rw [e] at h2 ⊢
      rw [joinD, h2, h]
      rfl
    · rw [ih]; simp

/-- Three numbers as a text. -/
def verL (a b c : Nat) : List UInt8 := Lib.decDigits a ++ 46 :: (Lib.decDigits b ++ 46 :: Lib.decDigits c)
theorem dec_nodot (n : Nat) : 46 ∉ Lib.decDigits n := by
  intro h
  have := (isDig_iff _).1 (dec_dig n _ h)
  have e : (46 : UInt8).toNat = 46 := rfl
  omega
theorem spl_verL (a b c : Nat) : spl [] (verL a b c) = [Lib.decDigits a, Lib.decDigits b, Lib.decDigits c] := by
  unfold verL
  rw [spl_free _ _ _ (dec_nodot a), spl_dot, spl_free _ _ _ (dec_nodot b), spl_dot]
  have h := spl_free (Lib.decDigits c) [] [] (dec_nodot c)
  rw [List.append_nil, List.nil_append] at h
  rw [h]
  rfl

/-- The number that a piece spells, if it may be a version's. -/
def numP (p : List UInt8) : Option Nat := if p ≠ [] ∧ p.all isDig = true ∧ val p ≤ 65535 then some (val p) else none
def numE (p : List UInt8) : Option Nat := if p ≠ [] ∧ p.all isDig = true ∧ val p ≤ 65535 ∧ Lib.decDigits (val p) = p then some (val p) else none
theorem numP_dec {n : Nat} (h : n ≤ 65535) : numP (Lib.decDigits n) = some n := by
  unfold numP
  rw [val_dec, if_pos ⟨dec_ne n, List.all_eq_true.2 (dec_dig n), h⟩]
theorem numE_dec {n : Nat} (h : n ≤ 65535) : numE (Lib.decDigits n) = some n := by
  unfold numE
  rw [val_dec, if_pos ⟨dec_ne n, List.all_eq_true.2 (dec_dig n), h, rfl⟩]
theorem numE_some {p : List UInt8} {n : Nat} (h : numE p = some n) : p = Lib.decDigits n ∧ n ≤ 65535 := by
  unfold numE at h
  split at h
  · rename_i hc
    injection h with h
    subst h
    exact ⟨hc.2.2.2.symm, hc.2.2.1⟩
  · cases h
theorem numP_some {p : List UInt8} {n : Nat} (h : numP p = some n) : (p ≠ [] ∧ p.all isDig = true) ∧ val p = n ∧ n ≤ 65535 := by
  unfold numP at h
  split at h
  · rename_i hc
    injection h with h
    exact ⟨⟨hc.1, hc.2.1⟩, h, by omega⟩
  · cases h

abbrev V3 := Nat × Nat × Nat
/-- The version of a text. -/
def pv (s : List UInt8) : Option V3 :=
  match spl [] s with
  | [p, q, r] => (match numE p, numE q, numE r with | some a, some b, some c => some (a, b, c) | _, _, _ => none)
  | _ => none
theorem pv_verL {a b c : Nat} (ha : a ≤ 65535) (hb : b ≤ 65535) (hc : c ≤ 65535) : pv (verL a b c) = some (a, b, c) := by
  unfold pv
  rw [spl_verL]
  simp only [numE_dec ha, numE_dec hb, numE_dec hc]
theorem pv_some {s : List UInt8} {v : V3} (h : pv s = some v) : s = verL v.1 v.2.1 v.2.2 ∧ v.1 ≤ 65535 ∧ v.2.1 ≤ 65535 ∧ v.2.2 ≤ 65535 := by
  unfold pv at h
  split at h
  · rename_i p q r e
    split at h
    · rename_i a b c ea eb ec
      injection h with h
      subst h
      obtain ⟨rfl, ha⟩ := numE_some ea
      obtain ⟨rfl, hb⟩ := numE_some eb
      obtain ⟨rfl, hc⟩ := numE_some ec
      have hj := spl_join s []
      rw [e] at hj
      exact ⟨by rw [List.nil_append] at hj; rw [← hj]; rfl, ha, hb, hc⟩
    · cases h
  · cases h
theorem pv_none {s : List UInt8} (h : pv s = none) {a b c : Nat} (ha : a ≤ 65535) (hb : b ≤ 65535) (hc : c ≤ 65535) : verL a b c ≠ s := by
  intro e
  rw [← e, pv_verL ha hb hc] at h
  cases h

theorem index_free (p : List UInt8) (r : List UInt8) (h : 46 ∉ p) : Lib.index (p ++ 46 :: r) [46] = (p.length : Int) := by
  rw [Lib.index_one]
  induction p with
  | nil => rw [List.nil_append]; unfold Lib.indexByte; simp
  | cons c p ih =>
    have hc : c ≠ 46 := fun e => h (by rw [e]; exact List.mem_cons_self)
    have := ih (fun e => h (List.mem_cons_of_mem _ e))
    rw [List.cons_append]
    unfold Lib.indexByte
    rw [this]
    simp [hc]
theorem index_freeN (p : List UInt8) (h : 46 ∉ p) : Lib.index p [46] = -1 := by
  rw [Lib.index_one]
  induction p with
  | nil => rfl
  | cons c p ih =>
    have hc : c ≠ 46 := fun e => h (by rw [e]; exact List.mem_cons_self)
    unfold Lib.indexByte
    rw [ih (fun e => h (List.mem_cons_of_mem _ e))]
    simp [hc]
theorem splitK_dot (p r : List UInt8) (k : Nat) (h : 46 ∉ p) : Lib.splitK [46] 0 (k + 1) (p ++ 46 :: r) = p :: Lib.splitK [46] 0 k r := by
  have hi := index_free p r h
  have hm : ¬ (Lib.index (p ++ 46 :: r) [46] == -1) = true := fun e => by have := beq_iff_eq.1 e; omega
  rw [Lib.splitK, if_neg hm, hi]
  simp
theorem splitK_end (p : List UInt8) (k : Nat) (h : 46 ∉ p) : Lib.splitK [46] 0 k p = [p] := by
  cases k with
  | zero => rfl
  | succ k => rw [Lib.splitK, if_pos (by rw [index_freeN p h]; rfl)]
/-- The pieces that the program looks at. -/
def pcs (s : ByteArray) : List ByteArray := Lib.splitB ⟨#[46]⟩ 0 (min 4 (s.size + 1) - 1) s
theorem pcs_len (s : ByteArray) : (pcs s).length ≤ min 4 (s.size + 1) := by
  have := Lib.splitB_length_le ⟨#[46]⟩ 0 (min 4 (s.size + 1) - 1) s
  unfold pcs
  omega
theorem pcs_data (s : ByteArray) : (pcs s).map (·.data.toList) = Lib.splitK [46] 0 (min 4 (s.size + 1) - 1) s.data.toList := Lib.splitB_data _ _ _ _
theorem map_data {l : List ByteArray} {m : List (List UInt8)} (h : l.map (·.data.toList) = m) : l = m.map (fun x => (⟨x.toArray⟩ : ByteArray)) := by
  subst h
  rw [List.map_map]
  conv => lhs; rw [← List.map_id l]
  apply List.map_congr_left
  intro x _
  simp
theorem pcs_verL (a b c : Nat) : pcs ⟨(verL a b c).toArray⟩ = [⟨(Lib.decDigits a).toArray⟩, ⟨(Lib.decDigits b).toArray⟩, ⟨(Lib.decDigits c).toArray⟩] := by
  have h := pcs_data ⟨(verL a b c).toArray⟩
  have hl : 4 ≤ (ByteArray.mk (verL a b c).toArray).size + 1 := by
    show 4 ≤ (verL a b c).toArray.size + 1
    unfold verL
    have h1 := Lib.nDigits_pos a
    have h2 := Lib.nDigits_pos b
    have h3 := Lib.nDigits_pos c
    simp [Lib.decDigits_length]
    omega
  have e : min 4 ((ByteArray.mk (verL a b c).toArray).size + 1) - 1 = 3 := by omega
  rw [e] at h
  have h2 : Lib.splitK [46] 0 3 (verL a b c) = [Lib.decDigits a, Lib.decDigits b, Lib.decDigits c] := by
    unfold verL
    rw [splitK_dot _ _ _ (dec_nodot a), splitK_dot _ _ _ (dec_nodot b), splitK_end _ _ (dec_nodot c)]
  rw [show (ByteArray.mk (verL a b c).toArray).data.toList = verL a b c by simp, h2] at h
  exact map_data h

/-- What the program makes of the pieces. -/
def vpr (s : ByteArray) : Option V3 :=
  match pcs s with
  | [p, q, r] => (match numP p.data.toList, numP q.data.toList, numP r.data.toList with
      | some a, some b, some c => if (⟨(verL a b c).toArray⟩ : ByteArray) = s then some (a, b, c) else none
      | _, _, _ => none)
  | _ => none
theorem vpr_eq (s : ByteArray) : vpr s = pv s.data.toList := by
  cases h : pv s.data.toList with
  | some v =>
    obtain ⟨he, ha, hb, hc⟩ := pv_some h
    obtain ⟨a, b, c⟩ := v
    have hs : s = ⟨(verL a b c).toArray⟩ := by
      apply ByteArray.ext
      apply Array.ext'
      exact he
    unfold vpr
    rw [hs, pcs_verL]
    simp only [numP_dec ha, numP_dec hb, numP_dec hc, if_pos]
  | none =>
    unfold vpr
    split
    · split
      · rename_i a b c e1 e2 e3
        rw [if_neg]
        intro e
        refine pv_none h (numP_some e1).2.2 (numP_some e2).2.2 (numP_some e3).2.2 ?_
        rw [← e]
      · rfl
    · rfl

/-- Which of two stands ahead. -/
def cmpV (a b : V3) : Int := if a.1 < b.1 then -1 else if b.1 < a.1 then 1 else if a.2.1 < b.2.1 then -1 else if b.2.1 < a.2.1 then 1 else if a.2.2 < b.2.2 then -1 else if b.2.2 < a.2.2 then 1 else 0
theorem cmpV_neg (a b : V3) : cmpV a b = -cmpV b a := by
  unfold cmpV
  repeat' split
  all_goals omega
theorem cmpV_zero (a b : V3) : cmpV a b = 0 ↔ a = b := by
  obtain ⟨a1, a2, a3⟩ := a
  obtain ⟨b1, b2, b3⟩ := b
  unfold cmpV
  simp only [Prod.mk.injEq]
  repeat' split
  all_goals omega
theorem cmpV_le (a b : V3) : cmpV a b ≤ 0 ↔ (a.1 < b.1 ∨ a.1 = b.1 ∧ (a.2.1 < b.2.1 ∨ a.2.1 = b.2.1 ∧ a.2.2 ≤ b.2.2)) := by
  unfold cmpV
  repeat' split
  all_goals omega
theorem cmpV_trans (a b c : V3) (h1 : cmpV a b ≤ 0) (h2 : cmpV b c ≤ 0) : cmpV a c ≤ 0 := by
  rw [cmpV_le] at *
  omega
theorem cmpV_range (a b : V3) : -1 ≤ cmpV a b ∧ cmpV a b ≤ 1 := by
  unfold cmpV
  repeat' split
  all_goals omega
/-- Within: all three are versions, the one is from low to high. -/
def withinB (s low high : ByteArray) : Bool :=
  match pv s.data.toList, pv low.data.toList, pv high.data.toList with
  | some v, some a, some b => decide (cmpV a v ≤ 0) && decide (cmpV v b ≤ 0)
  | _, _, _ => false
end Go.Proofs.YtldjnegoefdadaaGreatDoor
